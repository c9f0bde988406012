/- Laid together out of: FmH, FrA, WalkG, WalkH, WalkJ, WalkK, WalkL, WalkQ, OwnInts, RdA, RdB, RdC. -/
import Derived.Test.YtkjikjeecjendaaPb
import Derived.Test.YtkjikjeecjendaaPa
import Derived.Deep.RegionWith
import Derived.Deep.RegionHeld3
import Derived.BigQuiet

/- Frames: the program's ReadReport. Written by wip/mkfm2.py. -/
namespace Go.Proofs.Ytkjikjeecjendaa
open Go.RowKit

/-- What ReadReport tells of a frame, in numbers. -/
def readC (L : List Byte) : Int :=
  if L.length ≠ 16 then 1
  else if numB (cutB L 14 16) ≠ crcL (L.take 14) then 2
  else if (L.getD 13 default).val ≠ 0 ∨ repBOf L = false then 3 else 0
def readV (L : List Byte) : Value := if readC L = 0 then repOf L else vReport 0 0 0 0 0 0
theorem readC_len {L : List Byte} (h : L.length ≠ 16) : readC L = 1 := by unfold readC; rw [if_pos h]
theorem readC_chk {L : List Byte} (h : L.length = 16) (h' : numB (cutB L 14 16) ≠ crcL (L.take 14)) : readC L = 2 := by unfold readC; rw [if_neg (by omega), if_pos h']
theorem readC_bad {L : List Byte} (h : L.length = 16) (h' : numB (cutB L 14 16) = crcL (L.take 14)) (h3 : (L.getD 13 default).val ≠ 0 ∨ repBOf L = false) : readC L = 3 := by unfold readC; rw [if_neg (by omega), if_neg (by omega), if_pos h3]
theorem readC_ok {L : List Byte} (h : L.length = 16) (h' : numB (cutB L 14 16) = crcL (L.take 14)) (h3 : (L.getD 13 default).val = 0) (h4 : repBOf L = true) : readC L = 0 := by unfold readC; rw [if_neg (by omega), if_neg (by omega), if_neg (fun h => h.elim (fun x => x h3) (fun x => by rw [h4] at x; cases x))]
theorem readV_not {L : List Byte} {c : Int} (h : readC L = c) (hc : c ≠ 0) : readV L = vReport 0 0 0 0 0 0 := by unfold readV; rw [h, if_neg hc]
theorem readV_ok {L : List Byte} (h : readC L = 0) : readV L = repOf L := by unfold readV; rw [if_pos h]

set_option maxRecDepth 10000 in
set_option maxHeartbeats 1600000 in
theorem implReadReport_any (v : Value) (L : List Byte) (w : World) (h : ByIn w v L) :
    Calls Try.prog 18 #[v] w fun e w' => e = .returned (.tuple #[readV L, .int .i64 (readC L)]) ∧ Below w.heap.size w w' := by
  have h0 := h
  obtain ⟨ao, cap, rfl, hlc, hm, hc⟩ := h
  unfold maxLen at hm
  have HB := hide (Below.alloc1 w (.cells #[.int .i64 0, .int .i64 0, .int .i64 0, .int .i64 0, .int .i64 0, .int .i64 0] 25))
  have HO := hide (ownV_alloc w #[.int .i64 0, .int .i64 0, .int .i64 0, .int .i64 0, .int .i64 0, .int .i64 0] 25)
  by_cases hl : L.length = 16
  case neg =>
    have HN := hide (readC_len hl)
    have hne : ((L.length : Int) != 16) = true := by rw [bne_iff_ne]; omega
    clear hc h0
    generalize L.length = m at *
    clear hl
    go_enter Try.func18, Try.ntmps18
    go_wp2
    refine bodyPost_ret (v := .tuple #[vReport 0 0 0 0 0 0, .int .i64 1]) (by simp [results, Try.results18, go_sem, vReport]) rfl ⟨by rw [readV_not (unhide HN) (by omega), unhide HN], ?_⟩
    first | exact unhide HB | exact ((((((unhide HB).setCell (Nat.le_refl _) _).setCell (Nat.le_refl _) _).setCell (Nat.le_refl _) _).setCell (Nat.le_refl _) _).setCell (Nat.le_refl _) _).setCell (Nat.le_refl _) _
  obtain ⟨b, o, rfl, -⟩ := hc 0 (by omega)
  have hfr := ByIn.frAt h0
  have HFR := hide hfr
  clear hc h0
  have PN : Hid (∀ W, Below w.heap.size w W → Calls Try.prog 57 #[.pointer (some ⟨b, o, none⟩), .int .i64 14, .int .i64 16] W fun e w' => e = .returned (.int .i64 (numB (cutB L 14 16) : Nat)) ∧ w' = W) := fun W hW => by
    exact number_any b o L 14 16 W (hfr.below hW) hl (by omega) (by omega) (by omega)
  have PC := hide fun W (hW : Below w.heap.size w W) => check_any b o L W (hfr.below hW) hl
  have PR := hide fun W (hW : Below w.heap.size w W) => report_any b o L W (hfr.below hW) hl
  have PK := hide fun W => implReportOk_any (numB (cutB L 0 1)) (numB (cutB L 1 5)) (fixB (numB (cutB L 5 8))) (fixB (numB (cutB L 8 11))) (numB (cutB L 11 12)) (numB (cutB L 12 13)) W
  have har := run_arrF b o cap
  have h13 := hfr 13 (by omega)
  have Hbad := hide fun h3 h' => readC_bad hl h' h3
  have Hok := hide fun h3 h4 h' => readC_ok hl h' h3 h4
  have Hchk := hide fun h' => readC_chk hl h'
  have HV : Hid (repOf L = vReport (numB (cutB L 0 1)) (numB (cutB L 1 5)) (fixB (numB (cutB L 5 8))) (fixB (numB (cutB L 8 11))) (numB (cutB L 11 12)) (numB (cutB L 12 13))) := rfl
  have HRB : Hid (repBOf L = repB (numB (cutB L 0 1)) (numB (cutB L 1 5)) (fixB (numB (cutB L 5 8))) (fixB (numB (cutB L 8 11))) (numB (cutB L 11 12)) (numB (cutB L 12 13))) := rfl
  rw [unhide HV] at PR
  rw [hl]
  clear hfr hl
  generalize numB (cutB L 0 1) = n0 at PR PK HV HRB
  generalize numB (cutB L 1 5) = n1 at PR PK HV HRB
  generalize fixB (numB (cutB L 5 8)) = n2 at PR PK HV HRB
  generalize fixB (numB (cutB L 8 11)) = n3 at PR PK HV HRB
  generalize numB (cutB L 11 12) = n4 at PR PK HV HRB
  generalize numB (cutB L 12 13) = n5 at PR PK HV HRB
  unfold vReport at PR PK
  generalize numB (cutB L 14 16) = nn at *
  generalize crcL (L.take 14) = cc at *
  generalize L.getD 13 default = z13 at *
  unfold eB at h13
  generalize z13.val = z at *
  clear z13
  go_enter Try.func18, Try.ntmps18
  go_wp2_with fail
  refine (unhide PN _ (unhide HB)).mono ?_
  rintro e w1 ⟨rfl, h9⟩
  have hB := unhide HB
  have hO := unhide HO
  rw [← h9] at hB hO
  clear h9 HB HO
  have HB := hide hB
  have HO := hide hO
  clear hB hO PN har
  go_wp2_with fail
  refine (unhide PC _ (unhide HB)).mono ?_
  rintro e w2 ⟨rfl, h9⟩
  have h8 := h9.symm
  subst h8
  clear h9 PC
  by_cases hch : nn = cc
  case neg =>
    have HN := hide (unhide Hchk hch)
    have hne : ((nn : Int) != (cc : Int)) = true := by rw [bne_iff_ne]; omega
    clear Hchk Hok Hbad PR PK HV HRB h13 hch HFR
    have d0 := (unhide HO).cell (i := 0) rfl
    have df0 := (unhide HO).frozen 0
    have d1 := (unhide HO).cell (i := 1) rfl
    have df1 := (unhide HO).frozen 1
    have d2 := (unhide HO).cell (i := 2) rfl
    have df2 := (unhide HO).frozen 2
    have d3 := (unhide HO).cell (i := 3) rfl
    have df3 := (unhide HO).frozen 3
    have d4 := (unhide HO).cell (i := 4) rfl
    have df4 := (unhide HO).frozen 4
    have d5 := (unhide HO).cell (i := 5) rfl
    have df5 := (unhide HO).frozen 5
    have HW := hide (((((((unhide HB).setCell (p := ⟨w.heap.size, 0, none⟩) (Nat.le_refl _) (.int .i64 0)).setCell (p := ⟨w.heap.size, 1, none⟩) (Nat.le_refl _) (.int .i64 0)).setCell (p := ⟨w.heap.size, 2, none⟩) (Nat.le_refl _) (.int .i64 0)).setCell (p := ⟨w.heap.size, 3, none⟩) (Nat.le_refl _) (.int .i64 0)).setCell (p := ⟨w.heap.size, 4, none⟩) (Nat.le_refl _) (.int .i64 0)).setCell (p := ⟨w.heap.size, 5, none⟩) (Nat.le_refl _) (.int .i64 0))
    go_wp2
    refine bodyPost_ret (v := .tuple #[vReport 0 0 0 0 0 0, .int .i64 2]) (by simp [results, Try.results18, go_sem, vReport, d0, d1, d2, d3, d4, d5]) rfl ⟨by rw [readV_not (unhide HN) (by omega), unhide HN], unhide HW⟩
  have HCH := hide hch
  have hne : ((nn : Int) != (cc : Int)) = false := by rw [bne_eq_false_iff_eq]; omega
  clear hch
  go_wp2_with fail
  refine (unhide PR _ (unhide HB)).mono ?_
  rintro e w2 ⟨rfl, hb⟩
  have hA := Below.step hb (Below.alloc1 w2 (.cells #[.int .i64 n0, .int .i64 n1, .int .i64 n2, .int .i64 n3, .int .i64 n4, .int .i64 n5] 25))
  have h13' := ((Below.step (unhide HB) hb).cell (lt_of_cell h13)).trans h13
  replace HB := hide (Below.step (unhide HB) hb)
  replace HO := hide ((unhide HO).step hb)
  clear hb PR h13 hne hA
  have hAll := Below.alloc1 w2 (.cells #[.int .i64 n0, .int .i64 n1, .int .i64 n2, .int .i64 n3, .int .i64 n4, .int .i64 n5] 25)
  have h13a := (hAll.cell (lt_of_cell h13')).trans h13'
  have HBa := hide (Below.step (unhide HB) hAll)
  have HOa := hide ((unhide HO).step hAll)
  have HOn := hide (ownV_alloc w2 #[.int .i64 n0, .int .i64 n1, .int .i64 n2, .int .i64 n3, .int .i64 n4, .int .i64 n5] 25)
  have hl2 := (unhide HO).lt
  clear hAll HB HO h13'
  by_cases hz : z = 0
  case neg =>
    have HN := hide (unhide Hbad (Or.inl hz) (unhide HCH))
    have hzn : ((z : Int) != 0) = true := by rw [bne_iff_ne]; omega
    clear Hbad Hok Hchk HV HRB HFR PK HOn hz HCH
    have d0 := (unhide HOa).cell (i := 0) rfl
    have df0 := (unhide HOa).frozen 0
    have d1 := (unhide HOa).cell (i := 1) rfl
    have df1 := (unhide HOa).frozen 1
    have d2 := (unhide HOa).cell (i := 2) rfl
    have df2 := (unhide HOa).frozen 2
    have d3 := (unhide HOa).cell (i := 3) rfl
    have df3 := (unhide HOa).frozen 3
    have d4 := (unhide HOa).cell (i := 4) rfl
    have df4 := (unhide HOa).frozen 4
    have d5 := (unhide HOa).cell (i := 5) rfl
    have df5 := (unhide HOa).frozen 5
    have HW := hide (((((((unhide HBa).setCell (p := ⟨w.heap.size, 0, none⟩) (Nat.le_refl _) (.int .i64 0)).setCell (p := ⟨w.heap.size, 1, none⟩) (Nat.le_refl _) (.int .i64 0)).setCell (p := ⟨w.heap.size, 2, none⟩) (Nat.le_refl _) (.int .i64 0)).setCell (p := ⟨w.heap.size, 3, none⟩) (Nat.le_refl _) (.int .i64 0)).setCell (p := ⟨w.heap.size, 4, none⟩) (Nat.le_refl _) (.int .i64 0)).setCell (p := ⟨w.heap.size, 5, none⟩) (Nat.le_refl _) (.int .i64 0))
    generalize hV : w2.alloc (.cells #[.int .i64 n0, .int .i64 n1, .int .i64 n2, .int .i64 n3, .int .i64 n4, .int .i64 n5] 25) = V at *
    go_wp2
    refine bodyPost_ret (v := .tuple #[vReport 0 0 0 0 0 0, .int .i64 3]) (by simp [results, Try.results18, go_sem, vReport, d0, d1, d2, d3, d4, d5]) rfl ⟨by rw [readV_not (unhide HN) (by omega), unhide HN], unhide HW⟩
  subst hz
  have h00 : (((0 : Nat) : Int) != 0) = false := rfl
  have e0 := (unhide HOn).cell (i := 0) rfl
  have e1 := (unhide HOn).cell (i := 1) rfl
  have e2 := (unhide HOn).cell (i := 2) rfl
  have e3 := (unhide HOn).cell (i := 3) rfl
  have e4 := (unhide HOn).cell (i := 4) rfl
  have e5 := (unhide HOn).cell (i := 5) rfl
  generalize hV : w2.alloc (.cells #[.int .i64 n0, .int .i64 n1, .int .i64 n2, .int .i64 n3, .int .i64 n4, .int .i64 n5] 25) = V at *
  go_wp2_with fail
  refine (unhide PK _).mono ?_
  rintro e w3 ⟨rfl, hb⟩
  replace HBa := hide (Below.step (unhide HBa) hb)
  replace HOa := hide ((unhide HOa).step hb)
  replace HOn := hide ((unhide HOn).step hb)
  clear hb PK h13a e0 e1 e2 e3 e4 e5 h00 hV
  cases hr : repB n0 n1 n2 n3 n4 n5
  · rw [hr] at HRB
    have HN := hide (unhide Hbad (Or.inr (unhide HRB)) (unhide HCH))
    clear Hbad Hok Hchk HV HRB HFR HOn HCH hr
    have d0 := (unhide HOa).cell (i := 0) rfl
    have df0 := (unhide HOa).frozen 0
    have d1 := (unhide HOa).cell (i := 1) rfl
    have df1 := (unhide HOa).frozen 1
    have d2 := (unhide HOa).cell (i := 2) rfl
    have df2 := (unhide HOa).frozen 2
    have d3 := (unhide HOa).cell (i := 3) rfl
    have df3 := (unhide HOa).frozen 3
    have d4 := (unhide HOa).cell (i := 4) rfl
    have df4 := (unhide HOa).frozen 4
    have d5 := (unhide HOa).cell (i := 5) rfl
    have df5 := (unhide HOa).frozen 5
    have HW := hide (((((((unhide HBa).setCell (p := ⟨w.heap.size, 0, none⟩) (Nat.le_refl _) (.int .i64 0)).setCell (p := ⟨w.heap.size, 1, none⟩) (Nat.le_refl _) (.int .i64 0)).setCell (p := ⟨w.heap.size, 2, none⟩) (Nat.le_refl _) (.int .i64 0)).setCell (p := ⟨w.heap.size, 3, none⟩) (Nat.le_refl _) (.int .i64 0)).setCell (p := ⟨w.heap.size, 4, none⟩) (Nat.le_refl _) (.int .i64 0)).setCell (p := ⟨w.heap.size, 5, none⟩) (Nat.le_refl _) (.int .i64 0))
    go_wp2
    refine bodyPost_ret (v := .tuple #[vReport 0 0 0 0 0 0, .int .i64 3]) (by simp [results, Try.results18, go_sem, vReport, d0, d1, d2, d3, d4, d5]) rfl ⟨by rw [readV_not (unhide HN) (by omega), unhide HN], unhide HW⟩
  rw [hr] at HRB
  have HN := hide (unhide Hok (by simp) (unhide HRB) (unhide HCH))
  clear Hbad Hok Hchk HRB HFR HCH hr
  have d0 := (unhide HOa).cell (i := 0) rfl
  have df0 := (unhide HOa).frozen 0
  have e0 := (unhide HOn).cell (i := 0) rfl
  have d1 := (unhide HOa).cell (i := 1) rfl
  have df1 := (unhide HOa).frozen 1
  have e1 := (unhide HOn).cell (i := 1) rfl
  have d2 := (unhide HOa).cell (i := 2) rfl
  have df2 := (unhide HOa).frozen 2
  have e2 := (unhide HOn).cell (i := 2) rfl
  have d3 := (unhide HOa).cell (i := 3) rfl
  have df3 := (unhide HOa).frozen 3
  have e3 := (unhide HOn).cell (i := 3) rfl
  have d4 := (unhide HOa).cell (i := 4) rfl
  have df4 := (unhide HOa).frozen 4
  have e4 := (unhide HOn).cell (i := 4) rfl
  have d5 := (unhide HOa).cell (i := 5) rfl
  have df5 := (unhide HOa).frozen 5
  have e5 := (unhide HOn).cell (i := 5) rfl
  have HW := hide (((((((unhide HBa).setCell (p := ⟨w.heap.size, 0, none⟩) (Nat.le_refl _) (.int .i64 n0)).setCell (p := ⟨w.heap.size, 1, none⟩) (Nat.le_refl _) (.int .i64 n1)).setCell (p := ⟨w.heap.size, 2, none⟩) (Nat.le_refl _) (.int .i64 n2)).setCell (p := ⟨w.heap.size, 3, none⟩) (Nat.le_refl _) (.int .i64 n3)).setCell (p := ⟨w.heap.size, 4, none⟩) (Nat.le_refl _) (.int .i64 n4)).setCell (p := ⟨w.heap.size, 5, none⟩) (Nat.le_refl _) (.int .i64 n5))
  go_wp2
  refine bodyPost_ret (v := .tuple #[vReport n0 n1 n2 n3 n4 n5, .int .i64 0]) (by simp [results, Try.results18, go_sem, vReport, d0, d1, d2, d3, d4, d5]) rfl ⟨by rw [readV_ok (unhide HN), unhide HN, unhide HV], unhide HW⟩

end Go.Proofs.Ytkjikjeecjendaa

/- Frames: one or two turned bits are never missed; what is packed is read back: the mathematics. No statement about the program stands here. -/
namespace Go.Proofs.Ytkjikjeecjendaa
open Go.RowKit

theorem pow_crc : ∀ m, m < 8 → crcI m 1 = 2 ^ m ∧ crcI (m + 8) 1 = 2 ^ m * 256 := by decide
theorem far_one : ∀ t, t < 128 → 0 < t → crcI t 1 ≠ 1 := by decide
theorem p8_lt : ∀ m, m < 8 → 2 ^ m < 256 := by decide
theorem xor_lc (a b c : Nat) : a ^^^ (b ^^^ c) = b ^^^ (a ^^^ c) := by rw [← Nat.xor_assoc, Nat.xor_comm a b, Nat.xor_assoc]
theorem xor_none {a b : Nat} (h : a ^^^ b = 0) : a = b := by
  have h1 : a ^^^ b ^^^ b = b := by rw [h, Nat.zero_xor]
  rw [Nat.xor_assoc, Nat.xor_self, Nat.xor_zero] at h1
  exact h1
theorem xor_two (a b : Nat) : 2 * (a ^^^ b) = (2 * a) ^^^ (2 * b) := by
  have := Nat.shiftLeft_xor_distrib (a := a) (b := b) (i := 1)
  simp only [Nat.shiftLeft_eq, Nat.pow_one] at this
  rw [Nat.mul_comm 2, Nat.mul_comm 2, Nat.mul_comm 2]
  exact this
theorem xor_256 (a b : Nat) : (a ^^^ b) * 256 = (a * 256) ^^^ (b * 256) := by
  have := Nat.shiftLeft_xor_distrib (a := a) (b := b) (i := 8)
  simpa only [Nat.shiftLeft_eq] using this
theorem crc1_bits (n k : Nat) (h : n < 65536) (hk : k = 4129) : crc1 n = (2 * n) % 65536 ^^^ (if n.testBit 15 then k else 0) := by
  have ht : n.testBit 15 = decide (32768 ≤ n) := by
    rw [Nat.testBit_eq_decide_div_mod_eq]
    congr 1
    apply propext
    constructor <;> intro _ <;> omega
  unfold crc1
  rw [ht, ← hk]
  by_cases h2 : 32768 ≤ n
  · rw [if_pos h2, if_pos (by rw [decide_eq_true_eq]; exact h2), show (2 * n) % 65536 = 2 * n - 65536 by omega]
  · rw [if_neg h2, if_neg (by rw [decide_eq_true_eq]; exact h2), Nat.xor_zero]
    omega
theorem crc1_xor {a b : Nat} (ha : a < 65536) (hb : b < 65536) : crc1 (a ^^^ b) = crc1 a ^^^ crc1 b := by
  obtain ⟨k, hk⟩ : ∃ k, k = 4129 := ⟨_, rfl⟩
  have hm : ∀ x y : Nat, (x ^^^ y) % 65536 = x % 65536 ^^^ y % 65536 := fun x y => Nat.xor_mod_two_pow (n := 16)
  rw [crc1_bits _ k (xor_lt16 ha hb) hk, crc1_bits a k ha hk, crc1_bits b k hb hk, xor_two, hm, Nat.testBit_xor]
  generalize 2 * a % 65536 = x
  generalize 2 * b % 65536 = y
  cases a.testBit 15 <;> cases b.testBit 15 <;> simp only [Bool.xor_false, Bool.xor_true, Bool.not_false, Bool.not_true, if_true, Bool.false_eq_true, if_false, Nat.xor_zero]
  · rw [Nat.xor_assoc]
  · rw [Nat.xor_assoc, Nat.xor_assoc, Nat.xor_comm y]
  · rw [Nat.xor_assoc, xor_lc k y k, Nat.xor_self, Nat.xor_zero]
theorem crc1_zero {n : Nat} (h : n < 65536) (h0 : crc1 n = 0) : n = 0 := by
  unfold crc1 at h0
  split at h0
  · have := xor_none h0
    omega
  · omega
theorem crcI_xor (j : Nat) {a b : Nat} (ha : a < 65536) (hb : b < 65536) : crcI j (a ^^^ b) = crcI j a ^^^ crcI j b := by
  induction j with
  | zero => rfl
  | succ j ih => rw [crcI_succ, crcI_succ, crcI_succ, ih, crc1_xor (crcI_lt ha) (crcI_lt hb)]
theorem crcI_nil (j : Nat) {n : Nat} (h : n < 65536) (h0 : crcI j n = 0) : n = 0 := by
  induction j with
  | zero => exact h0
  | succ j ih => rw [crcI_succ] at h0; exact ih (crc1_zero (crcI_lt h) h0)
theorem crcI_inj (j : Nat) {a b : Nat} (ha : a < 65536) (hb : b < 65536) (h : crcI j a = crcI j b) : a = b := by
  have h1 := crcI_xor j ha hb
  rw [h, Nat.xor_self] at h1
  exact xor_none (crcI_nil j (xor_lt16 ha hb) h1)
theorem crcI_add (j i n : Nat) : crcI (j + i) n = crcI j (crcI i n) := by
  induction j with
  | zero => rw [Nat.zero_add]; rfl
  | succ j ih => rw [show j + 1 + i = (j + i) + 1 by omega, crcI_succ, crcI_succ, ih]

theorem crcB_def (n b : Nat) : crcB n b = crcI 8 (n ^^^ b * 256) := rfl
seal crcI crc1 crcB

/-- The bytes gone through from n on. -/
def crcF (n : Nat) (L : List Byte) : Nat := L.foldl (fun n b => crcB n b.val) n
theorem crcF_cons (n : Nat) (b : Byte) (L : List Byte) : crcF n (b :: L) = crcF (crcB n b.val) L := rfl
theorem crcB_xor {n m b : Nat} (hn : n < 65536) (hm : m < 65536) (hb : b < 256) : crcB (n ^^^ m) b = crcB n b ^^^ crcI 8 m := by
  rw [crcB_def, crcB_def, show n ^^^ m ^^^ b * 256 = (n ^^^ b * 256) ^^^ m by rw [Nat.xor_assoc, Nat.xor_comm m, Nat.xor_assoc], crcI_xor 8 (xor_lt16 hn (by omega)) hm]
theorem crcF_xor (L : List Byte) : ∀ {n m : Nat}, n < 65536 → m < 65536 → crcF (n ^^^ m) L = crcF n L ^^^ crcI (8 * L.length) m := by
  induction L with
  | nil => intro n m _ _; rw [List.length_nil, Nat.mul_zero, crcI_zero]; rfl
  | cons b L ih =>
    intro n m hn hm
    rw [crcF_cons, crcF_cons, crcB_xor hn hm b.isLt, ih (crcB_lt b hn) (crcI_lt hm), List.length_cons, Nat.mul_add, Nat.mul_one, crcI_add]
/-- A byte with the bits of d turned. -/
def turnB (b : Byte) (d : Nat) (hd : d < 256) : Byte := ⟨b.val ^^^ d, Nat.xor_lt_two_pow (n := 8) b.isLt hd⟩
theorem turnB_val (b : Byte) (d : Nat) (hd : d < 256) : (turnB b d hd).val = b.val ^^^ d := rfl
theorem crcF_turn (d : Nat) (hd : d < 256) (L : List Byte) : ∀ (j n : Nat), n < 65536 → j < L.length → crcF n (L.set j (turnB (L.getD j default) d hd)) = crcF n L ^^^ crcI (8 * (L.length - j)) (d * 256) := by
  induction L with
  | nil => intro j n _ h; simp at h
  | cons b L ih =>
    intro j n hn hj
    cases j with
    | zero =>
      have e : crcB n (b.val ^^^ d) = crcB n b.val ^^^ crcI 8 (d * 256) := by
        rw [crcB_def, crcB_def, xor_256, ← Nat.xor_assoc, crcI_xor 8 (xor_lt16 hn (by have := b.isLt; omega)) (by omega)]
      rw [List.set_cons_zero, crcF_cons, crcF_cons, List.getD_cons_zero, turnB_val, e, crcF_xor L (crcB_lt b hn) (crcI_lt (by omega)), List.length_cons, ← crcI_add, show 8 * L.length + 8 = 8 * (L.length + 1 - 0) by omega]
    | succ j =>
      have := ih j (crcB n b.val) (crcB_lt b hn) (by simpa using hj)
      rw [List.set_cons_succ, crcF_cons, crcF_cons, List.getD_cons_succ, this, List.length_cons, show L.length - j = L.length + 1 - (j + 1) by omega]

/-- What the check is off by. -/
def syn (L : List Byte) : Nat := crcF 65535 (L.take 14) ^^^ numB (cutB L 14 16)
theorem syn_zero {L : List Byte} : syn L = 0 ↔ numB (cutB L 14 16) = crcL (L.take 14) := by
  constructor
  · intro h; exact (xor_none h).symm
  · intro h; unfold syn; rw [h]; exact Nat.xor_self _
theorem xor_sum (a b : Nat) (hb : b < 256) : a * 256 ^^^ b = a * 256 + b := by
  rw [← nat_join 8 (a * 256) b (by omega) hb]
  apply Nat.eq_of_testBit_eq
  intro i
  rw [Nat.testBit_xor, Nat.testBit_or]
  by_cases hi : i < 8
  · have : (a * 256).testBit i = false := by
      have := Nat.testBit_shiftLeft (x := a) (i := 8) (j := i)
      rw [Nat.shiftLeft_eq] at this
      rw [show a * 256 = a * 2 ^ 8 from rfl, this]
      simp; omega
    rw [this]; simp
  · have : b.testBit i = false := by
      have h8 : 2 ^ 8 ≤ 2 ^ i := Nat.pow_le_pow_right (by omega) (by omega)
      exact Nat.testBit_lt_two_pow (Nat.lt_of_lt_of_le hb h8)
    rw [this]; simp
theorem num2 {L : List Byte} (hl : L.length = 16) : numB (cutB L 14 16) = (L.getD 14 default).val * 256 ^^^ (L.getD 15 default).val := by
  have h1 : L.drop 14 = [L.getD 14 default, L.getD 15 default] := by
    apply List.ext_getElem
    · simp [hl]
    · intro i h1 h2
      have : i = 0 ∨ i = 1 := by simp at h2; omega
      rcases this with rfl | rfl <;> simp [List.getD, hl]
  unfold cutB
  rw [h1, xor_sum _ _ (L.getD 15 default).isLt]
  simp [numB]
def turnL (L : List Byte) (a : Nat) : List Byte := L.set (a / 8) (turnB (L.getD (a / 8) default) (2 ^ (a % 8)) (p8_lt _ (Nat.mod_lt _ (by omega))))
theorem turnL_len (L : List Byte) (a : Nat) : (turnL L a).length = L.length := List.length_set
/-- One bit turned. -/
theorem syn_turn {L : List Byte} (hl : L.length = 16) {a : Nat} (ha : a < 128) : syn (turnL L a) = syn L ^^^ crcI (8 * (15 - a / 8) + a % 8) 1 := by
  have hl' : (turnL L a).length = 16 := by rw [turnL_len]; exact hl
  have hm : a % 8 < 8 := Nat.mod_lt _ (by omega)
  obtain ⟨p1, p2⟩ := pow_crc _ hm
  unfold syn
  rw [num2 hl, num2 hl']
  have gj : ∀ i, i < 16 → (turnL L a).getD i default = if a / 8 = i then turnB (L.getD (a / 8) default) (2 ^ (a % 8)) (p8_lt _ hm) else L.getD i default := fun i hi => by
    unfold turnL
    by_cases e : a / 8 = i
    · subst e
      rw [if_pos rfl]
      simp [List.getD, hl, hi]
    · rw [if_neg e]
      simp [List.getD, List.getElem?_set_ne e]
  rw [gj 14 (by omega), gj 15 (by omega)]
  by_cases h14 : a / 8 < 14
  · rw [if_neg (by omega), if_neg (by omega)]
    have e1 : (turnL L a).take 14 = (L.take 14).set (a / 8) (turnB ((L.take 14).getD (a / 8) default) (2 ^ (a % 8)) (p8_lt _ hm)) := by
      unfold turnL
      rw [List.take_set]
      congr 2
      simp [List.getD, h14]
    have hl14 : (L.take 14).length = 14 := by simp [hl]
    rw [e1, crcF_turn _ _ _ _ _ (by omega) (by rw [hl14]; exact h14), hl14, ← p2, ← crcI_add, show 8 * (14 - a / 8) + (a % 8 + 8) = 8 * (15 - a / 8) + a % 8 by omega, Nat.xor_assoc, Nat.xor_assoc, Nat.xor_comm (crcI _ 1)]
  · have e1 : (turnL L a).take 14 = L.take 14 := by
      unfold turnL
      rw [List.take_set, List.set_eq_of_length_le (by simp [hl]; omega)]
    rw [e1]
    by_cases e : a / 8 = 14
    · rw [if_pos e, if_neg (by omega), turnB_val, xor_256, e, ← p2, show 8 * (15 - 14) + a % 8 = a % 8 + 8 by omega, Nat.xor_assoc, Nat.xor_assoc, Nat.xor_assoc, Nat.xor_comm (crcI _ 1)]
    · have e' : a / 8 = 15 := by omega
      rw [if_neg e, if_pos e', turnB_val, e', ← p1, show 8 * (15 - 15) + a % 8 = a % 8 by omega, Nat.xor_assoc, Nat.xor_assoc]
theorem s_inj {t u : Nat} (h : t < u) (hu : u < 128) : crcI t 1 ≠ crcI u 1 := by
  intro e
  have : crcI t 1 = crcI t (crcI (u - t) 1) := by rw [← crcI_add, e]; congr 1; omega
  exact far_one (u - t) (by omega) (by omega) (crcI_inj t (by omega) (crcI_lt (by omega)) this).symm
theorem s_ne {t : Nat} : crcI t 1 ≠ 0 := fun e => by have := crcI_nil t (by omega) e; omega
/-- One turned bit, two turned bits are seen. -/
theorem read_turn1 {L : List Byte} (hl : L.length = 16) (hc : numB (cutB L 14 16) = crcL (L.take 14)) {a : Nat} (ha : a < 128) : readC (turnL L a) = 2 := by
  refine readC_chk (by rw [turnL_len]; exact hl) (fun e => ?_)
  have h1 := syn_zero.2 e
  rw [syn_turn hl ha, syn_zero.2 hc, Nat.zero_xor] at h1
  exact s_ne h1
theorem read_turn2 {L : List Byte} (hl : L.length = 16) (hc : numB (cutB L 14 16) = crcL (L.take 14)) {a b : Nat} (ha : a < 128) (hb : b < 128) (hab : a ≠ b) : readC (turnL (turnL L a) b) = 2 := by
  refine readC_chk (by rw [turnL_len, turnL_len]; exact hl) (fun e => ?_)
  have h1 := syn_zero.2 e
  rw [syn_turn (by rw [turnL_len]; exact hl) hb, syn_turn hl ha, syn_zero.2 hc, Nat.zero_xor] at h1
  have h2 := xor_none h1
  rcases Nat.lt_or_ge (8 * (15 - a / 8) + a % 8) (8 * (15 - b / 8) + b % 8) with h | h
  · exact s_inj h (by omega) h2
  · exact s_inj (t := 8 * (15 - b / 8) + b % 8) (u := 8 * (15 - a / 8) + a % 8) (by omega) (by omega) h2.symm

/-- What is packed is read back. -/
theorem toB_v (n : Int) : (((toB n).val : Nat) : Int) = n % 256 := by
  unfold toB
  simp only
  omega
theorem packed_chk (k i x y s n : Int) : numB (cutB (packed k i x y s n) 14 16) = crcL ((packed k i x y s n).take 14) := by
  unfold packed
  simp only
  generalize hf : [toB k, toB (i / 16777216), toB (i / 65536), toB (i / 256), toB i, toB (x / 65536), toB (x / 256), toB x, toB (y / 65536), toB (y / 256), toB y, toB s, toB n, (0 : Byte)] = f
  have hl : f.length = 14 := by rw [← hf]; rfl
  have e1 : (f ++ [toB ((crcL f : Nat) / 256 : Int), toB (crcL f : Nat)]).take 14 = f := by rw [← hl, List.take_left]
  have e2 : cutB (f ++ [toB ((crcL f : Nat) / 256 : Int), toB (crcL f : Nat)]) 14 16 = [toB ((crcL f : Nat) / 256 : Int), toB (crcL f : Nat)] := by
    unfold cutB
    rw [← hl, List.drop_left, hl]
    rfl
  rw [e1, e2]
  have hlt := crcL_lt f
  generalize crcL f = c at *
  have h1 := toB_v ((c : Int) / 256)
  have h2 := toB_v (c : Int)
  simp only [numB, List.foldl_cons, List.foldl_nil]
  omega
theorem packed_get (k i x y s n : Int) : (packed k i x y s n).take 14 = [toB k, toB (i / 16777216), toB (i / 65536), toB (i / 256), toB i, toB (x / 65536), toB (x / 256), toB x, toB (y / 65536), toB (y / 256), toB y, toB s, toB n, 0] := rfl
theorem packed_rep {k i x y s n : Int} (h : repB k i x y s n = true) : (((numB (cutB (packed k i x y s n) 0 1) : Nat) : Int) = k ∧ ((numB (cutB (packed k i x y s n) 1 5) : Nat) : Int) = i ∧ fixB (numB (cutB (packed k i x y s n) 5 8)) = x ∧ fixB (numB (cutB (packed k i x y s n) 8 11)) = y ∧ ((numB (cutB (packed k i x y s n) 11 12) : Nat) : Int) = s ∧ ((numB (cutB (packed k i x y s n) 12 13) : Nat) : Int) = n) := by
  unfold repB at h
  simp only [Bool.and_eq_true] at h
  obtain ⟨⟨⟨⟨⟨h1, h2⟩, h3⟩, h4⟩, h5⟩, h6⟩ := h
  have q1 := inB_true h1
  have q2 := inB_true h2
  have q3 := inB_true h3
  have q4 := inB_true h4
  have q5 := inB_true h5
  have q6 := inB_true h6
  have c0 : cutB (packed k i x y s n) 0 1 = [toB k] := rfl
  have c1 : cutB (packed k i x y s n) 1 5 = [toB (i / 16777216), toB (i / 65536), toB (i / 256), toB i] := rfl
  have c2 : cutB (packed k i x y s n) 5 8 = [toB (x / 65536), toB (x / 256), toB x] := rfl
  have c3 : cutB (packed k i x y s n) 8 11 = [toB (y / 65536), toB (y / 256), toB y] := rfl
  have c4 : cutB (packed k i x y s n) 11 12 = [toB s] := rfl
  have c5 : cutB (packed k i x y s n) 12 13 = [toB n] := rfl
  rw [c0, c1, c2, c3, c4, c5]
  clear c0 c1 c2 c3 c4 c5 h1 h2 h3 h4 h5 h6
  have fx : ∀ z : Int, -8388608 ≤ z → z ≤ 8388607 → fixB (numB [toB (z / 65536), toB (z / 256), toB z]) = z := fun z hz0 hz1 => by
    have a1 := toB_v (z / 65536)
    have a2 := toB_v (z / 256)
    have a3 := toB_v z
    obtain ⟨N, eN⟩ : ∃ N, N = numB [toB (z / 65536), toB (z / 256), toB z] := ⟨_, rfl⟩
    have hN : (N : Int) = (z / 65536 % 256 * 256 + z / 256 % 256) * 256 + z % 256 := by
      rw [eN]
      simp only [numB, List.foldl_cons, List.foldl_nil]
      omega
    rw [← eN]
    unfold fixB
    by_cases hb : (8388607 : Int) < (N : Int)
    · rw [if_pos hb]; omega
    · rw [if_neg hb]; omega
  have v1 := toB_v k
  have v2 := toB_v (i / 16777216)
  have v3 := toB_v (i / 65536)
  have v4 := toB_v (i / 256)
  have v5 := toB_v i
  have v6 := toB_v s
  have v7 := toB_v n
  refine ⟨?_, ?_, fx x q3.1 q3.2, fx y q4.1 q4.2, ?_, ?_⟩ <;> simp only [numB, List.foldl_cons, List.foldl_nil] <;> omega
theorem packed_read {k i x y s n : Int} (h : repB k i x y s n = true) : readC (packed k i x y s n) = 0 ∧ readV (packed k i x y s n) = vReport k i x y s n := by
  obtain ⟨e0, e1, e2, e3, e4, e5⟩ := packed_rep h
  have hR : repBOf (packed k i x y s n) = true := by unfold repBOf; rw [e0, e1, e2, e3, e4, e5]; exact h
  have hC := readC_ok (packed_len k i x y s n) (packed_chk k i x y s n) rfl hR
  refine ⟨hC, ?_⟩
  rw [readV_ok hC]
  unfold repOf
  rw [e0, e1, e2, e3, e4, e5]

end Go.Proofs.Ytkjikjeecjendaa

/- Contracts of the specification's l1Water and of the program's bothHalves. -/
namespace Go.Proofs.Ytkjikjeecjendaa
open Go.RowKit

theorem rows0_le {w : World} {v : Value} {R : List (List Int)} (h : RowsIn w v R) {r : Nat} (hr : r < R.length) : (R.getD r []).length ≤ 9223372036854775807 := by
  obtain ⟨ao', cap', _, _, _, hc⟩ := h
  obtain ⟨b, o, ar, m, cr, _, _, _, EM, hm0⟩ := rowAt hc hr
  rw [unhide EM]; exact hm0

/-- The half-breadth at a station and a water line. -/
def cellOf (R : List (List Int)) (s c : Nat) : Int := (R.getD s []).getD c 0

end Go.Proofs.Ytkjikjeecjendaa

/- The area at a water line as a plain function, and the contracts of the specification's and the program's Plane: both tell it. -/
namespace Go.Proofs.Ytkjikjeecjendaa
open Go.RowKit

theorem ret_int {k : IntKind} {a b : Int} (h : a = b) : Ending.returned (.int k a) = .returned (.int k b) := by rw [h]

/-- f 0 + f 1 + .. + f (k - 1). -/
def sumTo (f : Nat → Int) : Nat → Int
  | 0 => 0
  | k + 1 => sumTo f k + f k

theorem sumTo_bd {f : Nat → Int} {B : Int} {n : Nat} (h : ∀ i, i < n → 0 ≤ f i ∧ f i ≤ B) : ∀ k, k ≤ n → 0 ≤ sumTo f k ∧ sumTo f k ≤ k * B
  | 0, _ => by simp [sumTo]
  | k + 1, hk => by
    have h1 := sumTo_bd h k (by omega)
    have h2 := h k (by omega)
    have e : ((k + 1 : Nat) : Int) * B = k * B + B := by
      rw [Int.natCast_add, Int.add_mul]; simp
    simp only [sumTo]
    omega

theorem mul_bd {a b A B : Int} (h1 : 0 ≤ a) (h2 : a ≤ A) (h3 : 0 ≤ b) (h4 : b ≤ B) : 0 ≤ a * b ∧ a * b ≤ A * B :=
  ⟨Int.mul_nonneg h1 h3, Int.mul_le_mul h2 h4 h3 (Int.le_trans h1 h2)⟩

/-- What a right hull is. -/
structure Right (step rise : Int) (R : List (List Int)) : Prop where
  step1 : 1 ≤ step
  step2 : step ≤ 100
  rise1 : 1 ≤ rise
  rise2 : rise ≤ 20
  len1 : 2 ≤ R.length
  len2 : R.length ≤ 12
  wat1 : 2 ≤ (R.getD 0 []).length
  wat2 : (R.getD 0 []).length ≤ 10
  even : ∀ r, r < R.length → (R.getD r []).length = (R.getD 0 []).length
  cells : ∀ r c, r < R.length → c < (R.getD 0 []).length → 0 ≤ cellOf R r c ∧ cellOf R r c ≤ 50

theorem hullOk_right {step rise : Int} {R : List (List Int)} (h : hullOk step rise R = true) : Right step rise R := by
  unfold hullOk at h
  simp only [Bool.and_eq_true] at h
  obtain ⟨⟨⟨h1, h2⟩, h3⟩, h4⟩ := h
  have h1 := inB_true h1
  have h2 := inB_true h2
  have h3 := inB_true h3
  have row : ∀ r, r < R.length → (R.getD r []).length = (R.getD 0 []).length ∧ inB (R.getD r []).length 2 10 = true ∧ ((R.getD r []).all fun x => inB x 0 50) = true := fun r hr => by
    have := all_at (d := []) h4 hr
    unfold rowOk at this
    simp only [Bool.and_eq_true, beq_iff_eq] at this
    exact ⟨this.1.1, this.1.2, this.2⟩
  have r0 := row 0 (by omega)
  have i0 := inB_true r0.2.1
  refine ⟨h1.1, h1.2, h2.1, h2.2, by omega, by omega, by omega, by omega, fun r hr => (row r hr).1, fun r c hr hc => ?_⟩
  have := all_at (d := 0) (row r hr).2.2 (show c < (R.getD r []).length by rw [(row r hr).1]; exact hc)
  exact inB_true this

def planeF (step : Int) (R : List (List Int)) (c : Nat) (s : Nat) : Int := step * (cellOf R s c + cellOf R (s + 1) c)

theorem planeF_bd {step rise : Int} {R : List (List Int)} (h : Right step rise R) {c : Nat} (hc : c < (R.getD 0 []).length) : ∀ s, s < R.length - 1 → 0 ≤ planeF step R c s ∧ planeF step R c s ≤ 10000 := fun s hs => by
  have a := h.cells s c (by omega) hc
  have b := h.cells (s + 1) c (by omega) hc
  have h1 := h.step1
  have h2 := h.step2
  exact mul_bd (A := 100) (B := 100) (by omega) h2 (by omega) (by omega)

def plane (step rise : Int) (R : List (List Int)) (c : Int) : Int := if waterOk step rise R c = true then sumTo (planeF step R c.toNat) (R.length - 1) else 0

/-- Two rows beside each other, their values written out, with the numbers at place j. -/
theorem two_cells {w : World} {ao : Option Addr} {R : List (List Int)} {k j : Nat} (h : ∀ r, r < R.length → ∃ b o vr, ao = some ⟨b, o, none⟩ ∧ w.cell? ⟨b, o + r, none⟩ = some vr ∧ IntsIn w vr (R.getD r [])) (hk : k + 1 < R.length)
    (hj : j < (R.getD k []).length) (hj' : j < (R.getD (k + 1) []).length) :
    ∃ b o b1 o1 m cr b2 o2 m' cr', ao = some ⟨b, o, none⟩ ∧ w.cell? ⟨b, o + k, none⟩ = some (.slice (some ⟨b1, o1, none⟩) m cr) ∧ w.cell? ⟨b, o + (k + 1), none⟩ = some (.slice (some ⟨b2, o2, none⟩) m' cr') ∧
      w.cell? ⟨b1, o1 + j, none⟩ = some (.int .i64 (cellOf R k j)) ∧ w.cell? ⟨b2, o2 + j, none⟩ = some (.int .i64 (cellOf R (k + 1) j)) ∧ (j : Int) < m ∧ (j : Int) < m' := by
  obtain ⟨b, o, ar, m, cr, rfl, hcell, hrow, EM, hm0⟩ := rowAt h (show k < R.length by omega)
  obtain ⟨b', o', ar', m', cr', eb, hcell', hrow', EM', hm0'⟩ := rowAt h hk
  simp only [Option.some.injEq, Addr.mk.injEq, and_true] at eb
  obtain ⟨rfl, rfl⟩ := eb
  rw [unhide EM] at hj
  rw [unhide EM'] at hj'
  obtain ⟨b1, o1, rfl, hx⟩ := intAt hrow hj
  obtain ⟨b2, o2, rfl, hy⟩ := intAt hrow' hj'
  exact ⟨b, o, b1, o1, m, cr, b2, o2, m', cr', rfl, hcell, hcell', hx, hy, by omega, by omega⟩

end Go.Proofs.Ytkjikjeecjendaa

/- Twice the volumes of the strips as a plain function; the contracts of the program's stripHalves and Strips2. -/
namespace Go.Proofs.Ytkjikjeecjendaa
open Go.RowKit

def halvesF (R : List (List Int)) (s k : Nat) : Int := cellOf R s k + cellOf R (s + 1) k + cellOf R s (k + 1) + cellOf R (s + 1) (k + 1)

theorem halvesF_bd {step rise : Int} {R : List (List Int)} (h : Right step rise R) {s c : Nat} (hs : s + 1 < R.length) (hc : c < (R.getD 0 []).length) : ∀ k, k < c → 0 ≤ halvesF R s k ∧ halvesF R s k ≤ 200 := fun k hk => by
  have a1 := h.cells s k (by omega) (by omega)
  have a2 := h.cells (s + 1) k (by omega) (by omega)
  have a3 := h.cells s (k + 1) (by omega) (by omega)
  have a4 := h.cells (s + 1) (k + 1) (by omega) (by omega)
  unfold halvesF
  omega

def stripH (R : List (List Int)) (c s : Nat) : Int := sumTo (halvesF R s) c

theorem stripH_bd {step rise : Int} {R : List (List Int)} (h : Right step rise R) {s c : Nat} (hs : s + 1 < R.length) (hc : c < (R.getD 0 []).length) : 0 ≤ stripH R c s ∧ stripH R c s ≤ 2000 := by
  have := sumTo_bd (halvesF_bd h hs hc) c (Nat.le_refl _)
  have := h.wat2
  unfold stripH
  omega

/-- Twice the volume of a strip up to a water line. -/
def strip2 (step rise : Int) (R : List (List Int)) (c s : Nat) : Int := rise * step * stripH R c s

theorem strip2_bd {step rise : Int} {R : List (List Int)} (h : Right step rise R) {s c : Nat} (hs : s + 1 < R.length) (hc : c < (R.getD 0 []).length) :
    (0 ≤ rise * step ∧ rise * step ≤ 2000) ∧ (0 ≤ rise * step * stripH R c s ∧ rise * step * stripH R c s ≤ 4000000) := by
  have a := mul_bd (A := 20) (B := 100) (by have := h.rise1; omega) h.rise2 (by have := h.step1; omega) h.step2
  have b := stripH_bd h hs hc
  have d := mul_bd (A := 2000) (B := 2000) a.1 (by omega) b.1 b.2
  exact ⟨⟨a.1, by omega⟩, ⟨d.1, by omega⟩⟩

def strips (step rise : Int) (R : List (List Int)) (c : Int) : List Int := if waterOk step rise R c = true then (List.range (R.length - 1)).map (strip2 step rise R c.toNat) else []

/-- A slice that the call itself made: its block, where it has an element, lies from B on. -/
def OwnSl (B : Nat) (w : World) (v : Value) (xs : List Int) : Prop :=
  ∃ ao cap, v = .slice ao xs.length cap ∧ xs.length ≤ cap ∧ cap ≤ maxLen ∧ (xs ≠ [] → ∃ g, ao = some ⟨g, 0, none⟩ ∧ B ≤ g ∧ OwnV w g (ints xs))

theorem OwnSl.intsIn {B : Nat} {w : World} {v : Value} {xs : List Int} (h : OwnSl B w v xs) : IntsIn w v xs := by
  obtain ⟨ao, cap, rfl, h1, h2, h3⟩ := h
  refine ⟨ao, cap, rfl, h1, h2, fun i hi => ?_⟩
  obtain ⟨g, rfl, _, ho⟩ := h3 (fun e => by rw [e] at hi; simp at hi)
  exact ⟨g, 0, rfl, by rw [Nat.zero_add]; exact ho.cell (ints_get xs hi)⟩

theorem OwnSl.below {B : Nat} {w w' : World} {v : Value} {xs : List Int} (h : OwnSl B w v xs) (hb : Below w.heap.size w w') : OwnSl B w' v xs := by
  obtain ⟨ao, cap, rfl, h1, h2, h3⟩ := h
  refine ⟨ao, cap, rfl, h1, h2, fun hne => ?_⟩
  obtain ⟨g, rfl, hg, ho⟩ := h3 hne
  exact ⟨g, rfl, hg, ho.below hb ho.lt⟩

theorem OwnSl.mono {B B' : Nat} {w : World} {v : Value} {xs : List Int} (h : OwnSl B w v xs) (hB : B' ≤ B) : OwnSl B' w v xs := by
  obtain ⟨ao, cap, rfl, h1, h2, h3⟩ := h
  refine ⟨ao, cap, rfl, h1, h2, fun hne => ?_⟩
  obtain ⟨g, rfl, hg, ho⟩ := h3 hne
  exact ⟨g, rfl, Nat.le_trans hB hg, ho⟩

/-- The new list of strips, k of its n cells filled. -/
structure FillS (w wr : World) (f : Nat → Int) (n k : Nat) : Prop where
  below : Below w.heap.size w wr
  row : wr.rowIs w.heap.size 3 n (fun i => if i < k then .int .i64 (f i) else .int .i64 0)

theorem fillS_start (w : World) (f : Nat → Int) (n : Nat) : FillS w (w.alloc (.cells (madeCells #[.int .i64 0] n) 3)) f n 0 :=
  ⟨(Below.refl _ _).alloc (Nat.le_refl _) _, (World.rowIs_made w _ n 3).congr (fun j _ => by simp)⟩

theorem fillS_step {w wr w1 : World} {f : Nat → Int} {n k : Nat} (h : FillS w wr f n k) (hb : Below wr.heap.size wr w1) : FillS w (w1.setCell ⟨w.heap.size, k, none⟩ (.int .i64 (f k))) f n (k + 1) := by
  refine ⟨(Below.step h.below hb).setCell (Nat.le_refl _) _, ((h.row.of_block (hb.block _ h.row.lt)).set k _).congr (fun i _ => ?_)⟩
  by_cases e : i = k
  · subst e; simp
  · rw [if_neg e]
    by_cases hlt : i < k
    · rw [if_pos hlt, if_pos (by omega)]
    · rw [if_neg hlt, if_neg (by omega)]

theorem fillS_done {w wr : World} {f : Nat → Int} {n : Nat} (h : FillS w wr f n n) (hn : n ≤ maxLen) : OwnSl w.heap.size wr (.slice (some ⟨w.heap.size, 0, none⟩) n n) ((List.range n).map f) := by
  refine ⟨_, n, by simp, by simp, hn, fun _ => ⟨_, rfl, Nat.le_refl _, ?_⟩⟩
  exact rowIs_ownV h.row (by simp [ints]) (fun i hi => by rw [if_pos hi]; simp [ints, hi])

end Go.Proofs.Ytkjikjeecjendaa

/- The contract of the program's Strips2: the strips, in memory of its own. -/
namespace Go.Proofs.Ytkjikjeecjendaa
open Go.RowKit

theorem ret_val {a b : Value} (h : a = b) : Ending.returned a = .returned b := by rw [h]

end Go.Proofs.Ytkjikjeecjendaa

/- The contract of the specification's Strips2: the strips, in memory of its own. -/
namespace Go.Proofs.Ytkjikjeecjendaa
open Go.RowKit

theorem ownsRow_below {w w' : World} {base n size : Nat} {e : TypeId} {v : Value} {xs : List Value} (h : w.ownsRow base e size v n xs) (hb : Below w.heap.size w w') : w'.ownsRow base e size v n xs := by
  obtain ⟨h1, h2⟩ := h
  refine ⟨h1, ?_⟩
  rcases h2 with h2 | ⟨g, cap, cur, hv, hg, hh, r⟩
  · exact Or.inl h2
  · obtain ⟨hlt, _⟩ := Array.getElem?_eq_some_iff.1 hh
    exact Or.inr ⟨g, cap, cur, hv, hg, (hb.block g hlt).trans hh, r⟩

theorem ownsRow_ownSl {w : World} {base : Nat} {e : TypeId} {v : Value} {n : Nat} {xs : List Int} (h : w.ownsRow base e 1 v n (ints xs)) : OwnSl base w v xs ∧ ∃ ao cap, v = .slice ao n cap := by
  obtain ⟨h1, h2⟩ := h
  have hn : xs.length = n := by rw [ints_length] at h1; omega
  subst hn
  rcases h2 with ⟨rfl, h0⟩ | ⟨g, cap, cur, rfl, hg, hh, hc, hm, hs, ht⟩
  · have : xs = [] := List.length_eq_zero_iff.1 h0
    subst this
    exact ⟨⟨none, 0, rfl, Nat.le_refl _, Nat.zero_le _, fun h => absurd rfl h⟩, none, 0, rfl⟩
  · refine ⟨⟨_, cap, rfl, hc, hm, fun _ => ⟨g, rfl, hg, cur, e, hh, fun i hi => ?_⟩⟩, _, cap, rfl⟩
    rw [← ht]
    rw [ints_length] at hi
    simp [hi]

theorem range_snoc (f : Nat → Int) (k : Nat) : ints ((List.range (k + 1)).map f) = ints ((List.range k).map f) ++ [.int .i64 (f k)] := by
  simp [ints, List.range_succ]

theorem range_len (f : Nat → Int) (k : Nat) : ((List.range k).map f).length = k := by simp

/-- Two rows beside each other, at two places beside each other. -/
theorem four_cells {w : World} {ao : Option Addr} {R : List (List Int)} {k j : Nat} (h : ∀ r, r < R.length → ∃ b o vr, ao = some ⟨b, o, none⟩ ∧ w.cell? ⟨b, o + r, none⟩ = some vr ∧ IntsIn w vr (R.getD r [])) (hk : k + 1 < R.length)
    (hj : j + 1 < (R.getD k []).length) (hj' : j + 1 < (R.getD (k + 1) []).length) :
    ∃ b o b1 o1 m cr b2 o2 m' cr', ao = some ⟨b, o, none⟩ ∧ w.cell? ⟨b, o + k, none⟩ = some (.slice (some ⟨b1, o1, none⟩) m cr) ∧ w.cell? ⟨b, o + (k + 1), none⟩ = some (.slice (some ⟨b2, o2, none⟩) m' cr') ∧
      w.cell? ⟨b1, o1 + j, none⟩ = some (.int .i64 (cellOf R k j)) ∧ w.cell? ⟨b2, o2 + j, none⟩ = some (.int .i64 (cellOf R (k + 1) j)) ∧
      w.cell? ⟨b1, o1 + (j + 1), none⟩ = some (.int .i64 (cellOf R k (j + 1))) ∧ w.cell? ⟨b2, o2 + (j + 1), none⟩ = some (.int .i64 (cellOf R (k + 1) (j + 1))) ∧ (j : Int) + 1 < m ∧ (j : Int) + 1 < m' := by
  obtain ⟨b, o, ar, m, cr, rfl, hcell, hrow, EM, hm0⟩ := rowAt h (show k < R.length by omega)
  obtain ⟨b', o', ar', m', cr', eb, hcell', hrow', EM', hm0'⟩ := rowAt h hk
  simp only [Option.some.injEq, Addr.mk.injEq, and_true] at eb
  obtain ⟨rfl, rfl⟩ := eb
  rw [unhide EM] at hj
  rw [unhide EM'] at hj'
  obtain ⟨b1, o1, rfl, hx⟩ := intAt hrow (show j < m by omega)
  obtain ⟨b2, o2, rfl, hy⟩ := intAt hrow' (show j < m' by omega)
  obtain ⟨_, _, e1, hz⟩ := intAt hrow hj
  obtain ⟨_, _, e2, hu⟩ := intAt hrow' hj'
  simp only [Option.some.injEq, Addr.mk.injEq, and_true] at e1 e2
  obtain ⟨rfl, rfl⟩ := e1
  obtain ⟨rfl, rfl⟩ := e2
  exact ⟨b, o, b1, o1, m, cr, b2, o2, m', cr', rfl, hcell, hcell', hx, hy, hz, hu, by omega, by omega⟩

end Go.Proofs.Ytkjikjeecjendaa

/- Contracts of the laws' own markers and holders: markIntS, heldIntS, markIntSS, heldIntSS, markHull, heldHull. -/
namespace Go.Proofs.Ytkjikjeecjendaa
open Go.RowKit

/-- k, k + 1, .. : n numbers. -/
def marks (k : Int) (n : Nat) : List Int := (List.range n).map fun i : Nat => k + (i : Int)

theorem marks_len (k : Int) (n : Nat) : (marks k n).length = n := by simp [marks]
theorem marks_get (k : Int) {n i : Nat} (h : i < n) : (marks k n).getD i 0 = k + i := by simp [marks, List.getD, h]

/-- i of n numbers are marked. -/
def midway (xs : List Int) (k : Int) (i : Nat) : List Int := (List.range xs.length).map fun j : Nat => if j < i then k + (j : Int) else xs.getD j 0

theorem midway_len (xs : List Int) (k : Int) (i : Nat) : (midway xs k i).length = xs.length := by simp [midway]

theorem midway_zero (xs : List Int) (k : Int) : midway xs k 0 = xs := by
  apply List.ext_getElem
  · simp [midway]
  · intro i h1 h2
    simp [midway, List.getElem?_eq_getElem h2]

theorem midway_step (xs : List Int) (k : Int) (i : Nat) : (midway xs k i).set i (k + i) = midway xs k (i + 1) := by
  apply List.ext_getElem
  · simp [midway]
  · intro j h1 h2
    rw [List.getElem_set]
    simp only [midway, List.getElem_map, List.getElem_range]
    by_cases e : i = j
    · subst e; simp
    · rw [if_neg e]
      by_cases hlt : j < i
      · rw [if_pos hlt, if_pos (by omega)]
      · rw [if_neg hlt, if_neg (by omega)]

theorem midway_done (xs : List Int) (k : Int) : midway xs k xs.length = marks k xs.length := by
  unfold midway marks
  refine List.map_congr_left fun j hj => ?_
  rw [if_pos (List.mem_range.1 hj)]

set_option maxHeartbeats 800000 in
theorem markIntS_any (ao : Option Addr) (cap : Nat) (xs : List Int) (k : Int) (g : Nat) (w : World) (h : xs ≠ [] → ao = some ⟨g, 0, none⟩ ∧ OwnV w g (ints xs)) (hn : xs.length ≤ 1048576) (hk0 : 0 ≤ k) (hk1 : k ≤ 4611686018427387904) :
    Calls Try.prog 43 #[.slice ao xs.length cap, .int .i64 k] w fun e w' => e = .returned (.int .i64 (k + xs.length)) ∧ Kept (fun b => b = g ∧ xs ≠ []) w w' ∧ (xs ≠ [] → OwnV w' g (ints (marks k xs.length))) := by
  have HH := hide h
  clear h
  go_enter Try.func43, Try.ntmps43
  go_wp2
  go_loopg [1, 5] xs.length (fun gh kv iv wr => ∃ i : Nat, i ≤ xs.length ∧ gh = xs.length - i ∧ iv = .int .i64 i ∧ kv = .int .i64 (k + i) ∧ Kept (fun b => b = g ∧ xs ≠ []) w wr ∧ (xs ≠ [] → OwnV wr g (ints (midway xs k i))))
  case atStart => exact ⟨0, Nat.zero_le _, rfl, rfl, by go_num, Kept.refl _ _, fun hne => by rw [midway_zero]; exact (unhide HH hne).2⟩
  case round =>
    obtain ⟨i, hi, rfl, rfl, rfl, hK, hO⟩ := hrel
    by_cases hin : i < xs.length
    · have hne : xs ≠ [] := fun e => by rw [e] at hin; simp at hin
      obtain ⟨rfl, _⟩ := unhide HH hne
      have ho := hO hne
      have g1 : wr.cell? ⟨g, i, none⟩ = some (.int .i64 ((midway xs k i).getD i 0)) := ho.cell (ints_get _ (by rw [midway_len]; exact hin))
      have g2 : wr.frozen? ⟨g, i, none⟩ = false := ho.frozen i
      have HO' := hide (ho.set i (.int .i64 (k + i)) (by rw [ints_length, midway_len]; exact hin))
      have HK := hide hK
      rw [ints_set, midway_step] at HO'
      clear ho hO hK HH
      generalize (midway xs k i).getD i 0 = x at *
      go_wp2
      go_roundg (xs.length - (i + 1))
      case measure => omega
      case rel => exact ⟨i + 1, by omega, rfl, by go_num, by go_num, (unhide HK).setCell ⟨rfl, hne⟩ _, fun _ => unhide HO'⟩
    · have hii : i = xs.length := by omega
      subst hii
      have HK := hide hK
      have HO := hide hO
      clear hK hO
      go_wp2
      go_ret
      exact ⟨rfl, unhide HK, fun hne => by rw [← midway_done]; exact unhide HO hne⟩

set_option maxHeartbeats 800000 in
theorem heldIntS_any (v : Value) (xs : List Int) (k : Int) (w : World) (h : IntsIn w v xs) (hx : xs = marks k xs.length) (hn : xs.length ≤ 1048576) (hk0 : 0 ≤ k) (hk1 : k ≤ 4611686018427387904) :
    Calls Try.prog 44 #[v, .int .i64 k] w fun e w' => e = .returned (.int .i64 (k + xs.length)) ∧ w = w' := by
  obtain ⟨ao, cap, rfl, hl, hm, hc⟩ := h
  have HC := hide hc
  have HX : Hid (∀ i, i < xs.length → xs.getD i 0 = k + i) := fun i hi => by rw [hx]; exact marks_get k hi
  clear hc hl hm hx
  go_enter Try.func44, Try.ntmps44
  go_wp2
  go_loopg [1, 5] xs.length (fun gh kv iv wr => w = wr ∧ ∃ i : Nat, i ≤ xs.length ∧ gh = xs.length - i ∧ iv = .int .i64 i ∧ kv = .int .i64 (k + i))
  case atStart => exact ⟨rfl, 0, Nat.zero_le _, rfl, rfl, by go_num⟩
  case round =>
    obtain ⟨rfl, i, hi, rfl, rfl, rfl⟩ := hrel
    by_cases hin : i < xs.length
    · obtain ⟨b, o, rfl, hcell⟩ := unhide HC i hin
      rw [unhide HX i hin] at hcell
      go_wp2
      go_roundg (xs.length - (i + 1))
      case measure => omega
      case rel => exact ⟨rfl, i + 1, by omega, rfl, by go_num, by go_num⟩
    · have hii : i = xs.length := by omega
      subst hii
      go_wp2
      go_ret
      exact ⟨rfl, rfl⟩

end Go.Proofs.Ytkjikjeecjendaa

/- Lists of numbers of the call's own between two marks of memory; short contracts of toIntS, eqIntS, markIntS, heldIntS for the laws. -/
namespace Go.Proofs.Ytkjikjeecjendaa
open Go.RowKit

/-- A list of numbers of the call's own, its block, where it has an element, from B on and below U. -/
def OwnIntsU (B U : Nat) (w : World) (v : Value) (xs : List Int) : Prop :=
  ∃ ao cap, v = .slice ao xs.length cap ∧ xs.length ≤ cap ∧ cap ≤ maxLen ∧ (xs ≠ [] → ∃ g, ao = some ⟨g, 0, none⟩ ∧ B ≤ g ∧ g < U ∧ OwnV w g (ints xs))

theorem OwnSl.upto {B : Nat} {w : World} {v : Value} {xs : List Int} (h : OwnSl B w v xs) : OwnIntsU B w.heap.size w v xs := by
  obtain ⟨ao, cap, rfl, h1, h2, h3⟩ := h
  refine ⟨ao, cap, rfl, h1, h2, fun hne => ?_⟩
  obtain ⟨g, rfl, hg, ho⟩ := h3 hne
  exact ⟨g, rfl, hg, ho.lt, ho⟩

theorem OwnIntsU.inn {B U : Nat} {w : World} {v : Value} {xs : List Int} (h : OwnIntsU B U w v xs) : IntsIn w v xs := by
  obtain ⟨ao, cap, rfl, h1, h2, h3⟩ := h
  refine ⟨ao, cap, rfl, h1, h2, fun i hi => ?_⟩
  obtain ⟨g, rfl, _, _, ho⟩ := h3 (fun e => by rw [e] at hi; simp at hi)
  exact ⟨g, 0, rfl, by rw [Nat.zero_add]; exact ho.cell (ints_get xs hi)⟩

theorem OwnIntsU.below {B U : Nat} {w w' : World} {v : Value} {xs : List Int} (h : OwnIntsU B U w v xs) (hb : Below w.heap.size w w') : OwnIntsU B U w' v xs := by
  obtain ⟨ao, cap, rfl, h1, h2, h3⟩ := h
  refine ⟨ao, cap, rfl, h1, h2, fun hne => ?_⟩
  obtain ⟨g, rfl, hg, hu, ho⟩ := h3 hne
  exact ⟨g, rfl, hg, hu, ho.below hb ho.lt⟩

theorem OwnIntsU.kept {T : Nat → Prop} {B U : Nat} {w w' : World} {v : Value} {xs : List Int} (h : OwnIntsU B U w v xs) (hk : Kept T w w') (hT : ∀ b, B ≤ b → b < U → ¬ T b) : OwnIntsU B U w' v xs := by
  obtain ⟨ao, cap, rfl, h1, h2, h3⟩ := h
  refine ⟨ao, cap, rfl, h1, h2, fun hne => ?_⟩
  obtain ⟨g, rfl, hg, hu, ho⟩ := h3 hne
  exact ⟨g, rfl, hg, hu, ho.kept hk (hT g hg hu)⟩

theorem toIntS_o (v : Value) (xs : List Int) (w : World) (h : IntsIn w v xs) (hs : xs.length ≤ 1048576) :
    Calls Try.prog 47 #[v] w fun e w' => ∃ g, e = .returned (.slice (some ⟨g, 0, none⟩) xs.length xs.length) ∧ w.heap.size ≤ g ∧ OwnV w' g (ints xs) ∧ Below w.heap.size w w' := by
  refine (toIntS_any v xs w h hs).mono ?_
  rintro e w' ⟨rfl, ho, hb, _⟩
  exact ⟨_, rfl, Nat.le_refl _, ho, hb⟩

theorem eqIntS_o (v v' : Value) (xs : List Int) (w : World) (h : IntsIn w v xs) (h' : IntsIn w v' xs) :
    Calls Try.prog 41 #[v, v'] w fun e w' => e = .returned (.bool true) ∧ Below w.heap.size w w' := by
  refine (eqIntS_any v v' xs w h h').mono ?_
  rintro e w' ⟨rfl, n, rfl⟩
  exact ⟨rfl, below_drewN (Below.refl _ _) n⟩

theorem markInts_o (g : Nat) (xs : List Int) (k : Int) (w : World) (h : OwnV w g (ints xs)) (hn : xs.length ≤ 1048576) (hk0 : 0 ≤ k) (hk1 : k ≤ 4611686018427387904) :
    Calls Try.prog 43 #[.slice (some ⟨g, 0, none⟩) xs.length xs.length, .int .i64 k] w fun e w' => e = .returned (.int .i64 (k + xs.length)) ∧ Kept (fun b => b = g) w w' := by
  refine (markIntS_any _ _ xs k g w (fun _ => ⟨rfl, h⟩) hn hk0 hk1).mono ?_
  rintro e w' ⟨rfl, hk, _⟩
  exact ⟨rfl, hk.mono (fun b _ hb => hb.1)⟩

theorem markInts_v (B U : Nat) (ao : Option Addr) (n cap : Nat) (xs : List Int) (w : World) (h : OwnIntsU B U w (.slice ao n cap) xs) (hn : xs.length ≤ 1048576) :
    Calls Try.prog 43 #[.slice ao n cap, .int .i64 1] w fun e w' => e = .returned (.int .i64 (1 + xs.length)) ∧ Kept (fun b => B ≤ b ∧ b < U) w w' ∧ OwnIntsU B U w' (.slice ao n cap) (marks 1 xs.length) := by
  obtain ⟨ao', cap', e, h1, h2, h3⟩ := h
  simp only [Value.slice.injEq] at e
  obtain ⟨rfl, rfl, rfl⟩ := e
  by_cases hne : xs = []
  · subst hne
    refine (markIntS_any ao cap [] 1 0 w (fun h => absurd rfl h) hn (by omega) (by omega)).mono ?_
    rintro e w' ⟨rfl, hk, _⟩
    exact ⟨rfl, hk.mono (fun b _ hb => absurd rfl hb.2), ao, cap, by rw [marks_len], by rw [marks_len]; exact h1, h2, fun h => absurd rfl h⟩
  · obtain ⟨g, rfl, hg, hu, ho⟩ := h3 hne
    refine (markIntS_any _ cap xs 1 g w (fun _ => ⟨rfl, ho⟩) hn (by omega) (by omega)).mono ?_
    rintro e w' ⟨rfl, hk, ho'⟩
    exact ⟨rfl, hk.mono (fun b _ hb => by rw [hb.1]; exact ⟨hg, hu⟩), _, cap, by rw [marks_len], by rw [marks_len]; exact h1, h2, fun _ => ⟨g, rfl, hg, hu, ho' hne⟩⟩

theorem heldInts_v (v : Value) (M : List Int) (W : World) (hW : IntsIn W v (marks 1 M.length)) (hn : M.length ≤ 1048576) :
    Calls Try.prog 44 #[v, .int .i64 1] W fun e w' => e = .returned (.int .i64 (1 + (M.length : Int))) ∧ Below W.heap.size W w' := by
  refine (heldIntS_any v (marks 1 M.length) 1 W hW (by rw [marks_len]) (by rw [marks_len]; exact hn) (by omega) (by omega)).mono ?_
  rintro e w' ⟨rfl, rfl⟩
  rw [marks_len]
  exact ⟨rfl, Below.refl _ _⟩

end Go.Proofs.Ytkjikjeecjendaa

/- Lists of radios: words; contracts of the laws' own szRadio, szRadioS. No statement about the program stands here. -/
namespace Go.Proofs.Ytkjikjeecjendaa
open Go.RowKit

/-- Three boxes of the call's own. -/
structure B3 (w W : World) (a b c : List Value) : Prop where
  o1 : OwnV W w.heap.size a
  o2 : OwnV W (w.heap.size + 1) b
  o3 : OwnV W (w.heap.size + 1 + 1) c
  below : Below w.heap.size w W
theorem B3.step {w W W' : World} {a b c : List Value} (h : B3 w W a b c) (hb : Below W.heap.size W W') : B3 w W' a b c := ⟨h.o1.step hb, h.o2.step hb, h.o3.step hb, Below.step h.below hb⟩
theorem B3.put3 {w W : World} {a b c : List Value} (h : B3 w W a b c) (i : Nat) (u : Value) (hi : i < c.length) : B3 w (W.setCell ⟨w.heap.size + 1 + 1, i, none⟩ u) a b (c.set i u) :=
  ⟨h.o1.other (a := ⟨w.heap.size + 1 + 1, i, none⟩) (by show w.heap.size ≠ w.heap.size + 1 + 1; omega) u, h.o2.other (a := ⟨w.heap.size + 1 + 1, i, none⟩) (by show w.heap.size + 1 ≠ w.heap.size + 1 + 1; omega) u, h.o3.set i u hi, h.below.setCell (p := ⟨w.heap.size + 1 + 1, i, none⟩) (by show w.heap.size ≤ w.heap.size + 1 + 1; omega) u⟩
theorem B3.put2 {w W : World} {a b c : List Value} (h : B3 w W a b c) (i : Nat) (u : Value) (hi : i < b.length) : B3 w (W.setCell ⟨w.heap.size + 1, i, none⟩ u) a (b.set i u) c :=
  ⟨h.o1.other (a := ⟨w.heap.size + 1, i, none⟩) (by show w.heap.size ≠ w.heap.size + 1; omega) u, h.o2.set i u hi, h.o3.other (a := ⟨w.heap.size + 1, i, none⟩) (by show w.heap.size + 1 + 1 ≠ w.heap.size + 1; omega) u, h.below.setCell (p := ⟨w.heap.size + 1, i, none⟩) (by show w.heap.size ≤ w.heap.size + 1; omega) u⟩
theorem b3_new (w : World) (a b c : Array Value) (t1 t2 t3 : TypeId) : B3 w (((w.alloc (.cells a t1)).alloc (.cells b t2)).alloc (.cells c t3)) a.toList b.toList c.toList := by
  have h2 := ownV_alloc (w.alloc (.cells a t1)) b t2
  have h3 := ownV_alloc ((w.alloc (.cells a t1)).alloc (.cells b t2)) c t3
  simp only [World.size_alloc] at h2 h3
  exact ⟨((ownV_alloc w a t1).alloc _).alloc _, h2.alloc _, h3, Below.step (Below.step (Below.alloc1 _ _) (Below.alloc1 _ _)) (Below.alloc1 _ _)⟩

theorem farN {W : World} {g g' : Nat} {vs : List Value} (h : OwnV W g vs) (hne : g ≠ g') (i : Nat) (u : Value) : OwnV (W.setCell ⟨g', i, none⟩ u) g vs := h.other (a := ⟨g', i, none⟩) hne u

def vRadio (id sl : Int) (hv : Value) : Value := .agg #[.int .i64 id, .int .i64 sl, hv]
/-- Id, slot, and the places of those that it hears. -/
abbrev Rad := Int × Int × List Int
/-- v is a list of the radios L. -/
def RadsIn (w : World) (v : Value) (L : List Rad) : Prop :=
  ∃ ao cap, v = .slice ao L.length cap ∧ L.length ≤ cap ∧ cap ≤ maxLen ∧ ∀ i, i < L.length → ∃ b o na nc, ao = some ⟨b, o, none⟩ ∧ w.cell? ⟨b, o + i * 3, none⟩ = some (.int .i64 (L.getD i default).1) ∧
    w.cell? ⟨b, o + i * 3 + 1, none⟩ = some (.int .i64 (L.getD i default).2.1) ∧
    w.cell? ⟨b, o + i * 3 + 2, none⟩ = some (.slice na (L.getD i default).2.2.length nc) ∧ IntsIn w (.slice na (L.getD i default).2.2.length nc) (L.getD i default).2.2

theorem RadsIn.below {w w' : World} {v : Value} {L : List Rad} (h : RadsIn w v L) (hb : Below w.heap.size w w') : RadsIn w' v L := by
  obtain ⟨ao, cap, e, h1, h2, h3⟩ := h
  refine ⟨ao, cap, e, h1, h2, fun i hi => ?_⟩
  obtain ⟨b, o, na, nc, ea, c0, c1, c2, hr⟩ := h3 i hi
  exact ⟨b, o, na, nc, ea, wcell3 c0 hb, wcell3 c1 hb, wcell3 c2 hb, hr.below hb⟩
theorem radsIn_nil {w : World} : RadsIn w (.slice none 0 0) [] := ⟨none, 0, rfl, Nat.le_refl _, Nat.zero_le _, fun i hi => by simp at hi⟩

/-- One radio, its parts as letters. -/
theorem radAt {w : World} {ao : Option Addr} {L : List Rad} {k : Nat} (h : ∀ i, i < L.length → ∃ b o na nc, ao = some ⟨b, o, none⟩ ∧ w.cell? ⟨b, o + i * 3, none⟩ = some (.int .i64 (L.getD i default).1) ∧
    w.cell? ⟨b, o + i * 3 + 1, none⟩ = some (.int .i64 (L.getD i default).2.1) ∧
    w.cell? ⟨b, o + i * 3 + 2, none⟩ = some (.slice na (L.getD i default).2.2.length nc) ∧ IntsIn w (.slice na (L.getD i default).2.2.length nc) (L.getD i default).2.2) (hk : k < L.length) :
    ∃ b o na nc id sl H m, ao = some ⟨b, o, none⟩ ∧ w.cell? ⟨b, o + k * 3, none⟩ = some (.int .i64 id) ∧ w.cell? ⟨b, o + k * 3 + 1, none⟩ = some (.int .i64 sl) ∧
      w.cell? ⟨b, o + k * 3 + 2, none⟩ = some (.slice na m nc) ∧ IntsIn w (.slice na m nc) H ∧ Hid (L.getD k default = (id, sl, H)) ∧ Hid (H.length = m) ∧ m ≤ 9223372036854775807 := by
  obtain ⟨b, o, na, nc, ea, c0, c1, c2, hr⟩ := h k hk
  exact ⟨b, o, na, nc, _, _, _, _, ea, c0, c1, c2, hr, rfl, rfl, by have := hr.len.2; unfold maxLen at this; omega⟩

def SizedR (L : List Rad) (r : Int) : Prop := -1 ≤ r ∧ r ≤ 1048576 ∧ (0 ≤ r → L.length ≤ 1048576 ∧ ∀ i, i < L.length → (L.getD i default).2.2.length ≤ 1048576)

set_option maxHeartbeats 1600000 in
theorem szRadio_any (id sl : Int) (na : Option Addr) (nn nc : Nat) (H : List Int) (left : Int) (w : World) (hN : IntsIn w (.slice na nn nc) H) (h0 : 0 ≤ left) (h1 : left ≤ 1048576) :
    Calls Try.prog 72 #[vRadio id sl (.slice na nn nc), .int .i64 left] w fun e w' => ∃ r, e = .returned (.int .i64 r) ∧ SizedL H.length r ∧ Below w.heap.size w w' := by
  have A := Below.alloc1 w (.cells #[.int .i64 id, .int .i64 sl, .slice na nn nc] 90)
  have hI := hN.below A
  have HW := hide A
  unfold vRadio
  by_cases hlt : left < (H.length : Int)
  · have HSZ := hide (szIntS_no _ H left _ hI h0 h1 hlt)
    clear hN hI A
    go_enter Try.func72, Try.ntmps72
    go_wp2_with fail
    refine (unhide HSZ).mono ?_
    rintro e w2 ⟨rfl, h9⟩
    subst h9
    clear HSZ
    go_wp2
    go_ret
    exact ⟨_, rfl, ⟨by omega, by omega, fun h => by omega⟩, unhide HW⟩
  · have HSZ := hide (szIntS_yes _ H left _ hI h1 (by omega))
    clear hN hI A
    go_enter Try.func72, Try.ntmps72
    go_wp2_with fail
    refine (unhide HSZ).mono ?_
    rintro e w2 ⟨rfl, h9⟩
    subst h9
    clear HSZ
    have hd : decide (left - (H.length : Int) < 0) = false := by rw [decide_eq_false_iff_not]; omega
    go_wp2
    go_ret
    exact ⟨_, rfl, ⟨by omega, by omega, fun h => by omega⟩, unhide HW⟩

set_option maxHeartbeats 1600000 in
theorem szRadioS_any (v : Value) (L : List Rad) (left : Int) (w : World) (h : RadsIn w v L) (h0 : 0 ≤ left) (h1 : left ≤ 1048576) :
    Calls Try.prog 36 #[v, .int .i64 left] w fun e w' => ∃ r, e = .returned (.int .i64 r) ∧ SizedR L r ∧ Below w.heap.size w w' := by
  obtain ⟨ao, cap, rfl, hl, hm, hc⟩ := h
  unfold maxLen at hm
  have HC := hide hc
  clear hc
  by_cases hlt : left < L.length
  · go_enter Try.func36, Try.ntmps36
    go_wp2
    go_ret
    exact ⟨_, rfl, ⟨by omega, by omega, fun h => by omega⟩, Below.refl _ _⟩
  · have hL : L.length ≤ 1048576 := by omega
    go_enter Try.func36, Try.ntmps36
    go_wp2
    go_loopg [1, 5] L.length (fun g lv iv wr => ∃ k : Nat, k ≤ L.length ∧ g = L.length - k ∧ iv = .int .i64 k ∧ (∃ l : Int, lv = .int .i64 l ∧ 0 ≤ l ∧ l ≤ 1048576) ∧ Below w.heap.size w wr ∧ Hid (∀ r, r < k → (L.getD r default).2.2.length ≤ 1048576))
    case atStart => exact ⟨0, Nat.zero_le _, rfl, rfl, ⟨_, rfl, by omega, by omega⟩, Below.refl _ _, fun r hr => by omega⟩
    case round =>
      obtain ⟨k, hk, rfl, rfl, ⟨l, rfl, hl0, hl1⟩, hW, HD⟩ := hrel
      by_cases hkn : k < L.length
      · obtain ⟨b, o, na, nc, id, sl, H, m, rfl, hc0, hc1, hc2, hr, EX, EM, hm0⟩ := radAt (unhide HC) hkn
        have HSZ := hide fun V (hV : Below w.heap.size w V) => szRadio_any id sl na _ nc H l V (hr.below hV) hl0 hl1
        have g0 := wcell3 hc0 hW
        have g1 := wcell3 hc1 hW
        have g2 := wcell3 hc2 hW
        have HW := hide hW
        unfold vRadio at HSZ
        have hki : (k : Int) < L.length := by omega
        clear hc0 hc1 hc2 hW hr
        go_wp2_with fail
        refine (unhide HSZ _ (unhide HW)).mono ?_
        rintro e w1 ⟨r, rfl, ⟨hr0, hr1, hr2⟩, hb⟩
        have HW1 := hide (Below.step (unhide HW) hb)
        have HR := hide hr2
        clear hb HSZ HW hr2
        by_cases hr : r < 0
        · go_wp2
          go_ret
          exact ⟨_, rfl, ⟨by omega, by omega, fun h => by omega⟩, unhide HW1⟩
        · go_wp2
          go_roundg (L.length - (k + 1))
          case measure => omega
          case rel => exact ⟨k + 1, by omega, rfl, by go_num, ⟨_, rfl, by omega, by omega⟩, unhide HW1, fun q hq => by
            by_cases e : q = k
            · subst e; rw [unhide EX]; exact unhide HR (by omega)
            · exact HD.out q (by omega)⟩
      · go_wp2
        go_ret
        exact ⟨_, rfl, ⟨by omega, by omega, fun h => ⟨hL, fun i hi => HD.out i (by omega)⟩⟩, hW⟩

end Go.Proofs.Ytkjikjeecjendaa

/- Lists of radios of the call's own; contracts of the laws' own toRadio, toRadioS. No statement about the program stands here. -/
namespace Go.Proofs.Ytkjikjeecjendaa
open Go.RowKit

set_option maxRecDepth 10000 in
set_option maxHeartbeats 1600000 in
theorem toRadio_any (id sl : Int) (na : Option Addr) (nn nc : Nat) (H : List Int) (w : World) (hN : IntsIn w (.slice na nn nc) H) (hsN : H.length ≤ 1048576) :
    Calls Try.prog 74 #[vRadio id sl (.slice na nn nc)] w fun e w' => ∃ g, e = .returned (vRadio id sl (.slice (some ⟨g, 0, none⟩) H.length H.length)) ∧ w.heap.size ≤ g ∧ OwnV w' g (ints H) ∧ Below w.heap.size w w' := by
  have HN := hide hN
  have HH := hide (b3_new w #[.int .i64 id, .int .i64 sl, .slice na nn nc] #[.int .i64 0, .int .i64 0, .slice none 0 0] #[.int .i64 id, .int .i64 sl, .slice none 0 0] 90 45 45)
  clear hN
  unfold vRadio
  go_enter Try.func74, Try.ntmps74
  go_wp2_with fail
  refine (toIntS_o _ H _ ((unhide HN).below (unhide HH).below) hsN).mono ?_
  rintro e w2 ⟨g2, rfl, hg2, hO2, hb⟩
  have hg := (unhide HH).o3.lt
  replace HH := hide ((unhide HH).step hb)
  have HO2 := hide hO2
  have hg3 : w.heap.size + 1 + 1 < g2 := by omega
  clear hb hO2 hg2 hg HN
  have c0 := (unhide HH).o3.cell (i := 0) rfl
  have c1 := (unhide HH).o3.cell (i := 1) rfl
  have c2 := (unhide HH).o3.cell (i := 2) rfl
  have cf := (unhide HH).o3.frozen
  have HH1 := hide ((unhide HH).put3 2 (.slice (some ⟨g2, 0, none⟩) H.length H.length) (by simp))
  have e0 := (unhide HH1).o3.cell (i := 0) rfl
  have e1 := (unhide HH1).o3.cell (i := 1) rfl
  have e2 := (unhide HH1).o3.cell (i := 2) rfl
  have d0 := (unhide HH1).o2.cell (i := 0) rfl
  have d1 := (unhide HH1).o2.cell (i := 1) rfl
  have d2 := (unhide HH1).o2.cell (i := 2) rfl
  have df := (unhide HH1).o2.frozen
  have HH2 := hide ((((unhide HH1).put2 0 (.int .i64 id) (by simp)).put2 1 (.int .i64 sl) (by simp)).put2 2 (.slice (some ⟨g2, 0, none⟩) H.length H.length) (by simp))
  have hq2 : g2 ≠ w.heap.size + 1 + 1 := by omega
  have hq4 : g2 ≠ w.heap.size + 1 := by omega
  have HO2' := hide (farN (farN (farN (farN (unhide HO2) hq2 2 (.slice (some ⟨g2, 0, none⟩) H.length H.length)) hq4 0 (.int .i64 id)) hq4 1 (.int .i64 sl)) hq4 2 (.slice (some ⟨g2, 0, none⟩) H.length H.length))
  have hn1 : ¬ w.heap.size + 1 = w.heap.size + 1 + 1 := by omega
  have hn2 : ¬ w.heap.size + 1 + 1 = w.heap.size + 1 := by omega
  go_wp2
  have k0 := (unhide HH2).o2.cell (i := 0) rfl
  have k1 := (unhide HH2).o2.cell (i := 1) rfl
  have k2 := (unhide HH2).o2.cell (i := 2) rfl
  refine bodyPost_ret (v := vRadio id sl (.slice (some ⟨g2, 0, none⟩) H.length H.length)) (by simp [results, Try.results74, go_sem, vRadio, k0, k1, k2]) rfl ⟨g2, rfl, by omega, unhide HO2', (unhide HH2).below⟩

def eRd (q : Int × Int × Nat × Nat) : Nat → Value
  | 0 => .int .i64 q.1
  | 1 => .int .i64 q.2.1
  | _ => .slice (some ⟨q.2.2.2, 0, none⟩) q.2.2.1 q.2.2.1
/-- The radios L in numbers, the places of the r-th in block G r. -/
def rdL (L : List Rad) (G : Nat → Nat) : List (Int × Int × Nat × Nat) := (List.range L.length).map fun r => ((L.getD r default).1, (L.getD r default).2.1, (L.getD r default).2.2.length, G r)
theorem rdL_len (L : List Rad) (G : Nat → Nat) : (rdL L G).length = L.length := by simp [rdL]
theorem rdL_get {L : List Rad} {G : Nat → Nat} {r : Nat} (hr : r < L.length) : (rdL L G).getD r default = ((L.getD r default).1, (L.getD r default).2.1, (L.getD r default).2.2.length, G r) := by simp [rdL, List.getD, hr]
/-- The radios L stand in block g, the places of the r-th in block G r behind it. -/
def OwnRd (w : World) (g : Nat) (G : Nat → Nat) (L : List Rad) : Prop :=
  OwnV w g (recCells 3 eRd (rdL L G)) ∧ (∀ r, r < L.length → g < G r ∧ OwnV w (G r) (ints (L.getD r default).2.2)) ∧ ∀ r s, r < s → s < L.length → G r < G s
theorem OwnRd.step {w w' : World} {g : Nat} {G : Nat → Nat} {L : List Rad} (h : OwnRd w g G L) (hb : Below w.heap.size w w') : OwnRd w' g G L :=
  ⟨h.1.step hb, fun r hr => ⟨(h.2.1 r hr).1, (h.2.1 r hr).2.step hb⟩, h.2.2⟩
theorem OwnRd.kept {T : Nat → Prop} {w w' : World} {g : Nat} {G : Nat → Nat} {L : List Rad} (h : OwnRd w g G L) (hk : Kept T w w') (hT : ∀ b, g ≤ b → b < w.heap.size → ¬ T b) : OwnRd w' g G L :=
  ⟨h.1.kept hk (hT _ (Nat.le_refl _) h.1.lt), fun r hr => ⟨(h.2.1 r hr).1, (h.2.1 r hr).2.kept hk (hT _ (Nat.le_of_lt (h.2.1 r hr).1) (h.2.1 r hr).2.lt)⟩, h.2.2⟩
theorem OwnRd.inn {w : World} {g : Nat} {G : Nat → Nat} {L : List Rad} (h : OwnRd w g G L) (h1 : L.length ≤ 1048576) (h2 : ∀ r, r < L.length → (L.getD r default).2.2.length ≤ 1048576) : RadsIn w (.slice (some ⟨g, 0, none⟩) L.length L.length) L := by
  refine ⟨_, _, rfl, Nat.le_refl _, by unfold maxLen; omega, fun i hi => ?_⟩
  have hc : ∀ j, j < 3 → w.cell? ⟨g, i * 3 + j, none⟩ = some (eRd ((L.getD i default).1, (L.getD i default).2.1, (L.getD i default).2.2.length, G i) j) := fun j hj => by
    rw [← rdL_get hi]
    refine h.1.cell ?_
    have hq : i * 3 + j < (rdL L G).length * 3 := by rw [rdL_len]; omega
    have e1 : (i * 3 + j) / 3 = i := by omega
    have e2 : (i * 3 + j) % 3 = j := by omega
    simp [recCells, List.getElem?_range hq, e1, e2]
  have c0 := hc 0 (by omega)
  have c1 := hc 1 (by omega)
  have c2 := hc 2 (by omega)
  have z := h2 i hi
  exact ⟨g, 0, some ⟨G i, 0, none⟩, _, rfl, by simpa [eRd] using c0, by simpa [eRd] using c1, by simpa [eRd] using c2, OwnV.intsIn (h.2.1 i hi).2 (Nat.le_refl _) (by unfold maxLen; omega)⟩

theorem FillC.congr {α : Type} [Inhabited α] {n : Nat} {enc : α → Nat → Value} {w wr : World} {L L' : List α} {k : Nat} (h : FillC n enc w wr L (k * n)) (hl : L'.length = L.length) (he : ∀ r, r < k → L'.getD r default = L.getD r default) : FillC n enc w wr L' (k * n) := by
  obtain ⟨h0, c, t, h1, h2, h3⟩ := h
  refine ⟨h0, c, t, h1, by rw [hl]; exact h2, fun q hq => ?_⟩
  have : q / n < k := Nat.div_lt_of_lt_mul (by rw [Nat.mul_comm]; exact hq)
  rw [h3 q hq, he _ this]

/-- So far k radios are filled in. -/
structure FillR3 (w wr : World) (L : List Rad) (k : Nat) (G : Nat → Nat) : Prop where
  fill : FillC 3 eRd w wr (rdL L G) (k * 3)
  own : ∀ r, r < k → w.heap.size < G r ∧ OwnV wr (G r) (ints (L.getD r default).2.2)
  inc : ∀ r s, r < s → s < k → G r < G s
theorem FillR3.grow {w wr w1 : World} {L : List Rad} {k : Nat} {G : Nat → Nat} (h : FillR3 w wr L k G) (hb : Below wr.heap.size wr w1) : FillR3 w w1 L k G := ⟨h.fill.grow hb, fun r hr => ⟨(h.own r hr).1, (h.own r hr).2.step hb⟩, h.inc⟩
theorem FillR3.next {w wr : World} {L : List Rad} {k : Nat} {G : Nat → Nat} (h : FillR3 w wr L k G) (hk : k < L.length) {g : Nat} {id sl : Int} {H : List Int} (e : L.getD k default = (id, sl, H)) (hg : ∀ r, r < k → G r < g) (hg0 : w.heap.size < g) (ho : OwnV wr g (ints H)) :
    FillR3 w (((wr.setCell ⟨w.heap.size, k * 3, none⟩ (.int .i64 id)).setCell ⟨w.heap.size, k * 3 + 1, none⟩ (.int .i64 sl)).setCell ⟨w.heap.size, k * 3 + 2, none⟩ (.slice (some ⟨g, 0, none⟩) H.length H.length)) L (k + 1) (fun r => if r = k then g else G r) := by
  have f0 : FillC 3 eRd w wr (rdL L fun r => if r = k then g else G r) (k * 3) := h.fill.congr (by rw [rdL_len, rdL_len]) fun r hr => by
    rw [rdL_get (by omega), rdL_get (by omega), if_neg (by omega)]
  have hl : k * 3 + 2 < (rdL L fun r => if r = k then g else G r).length * 3 := by rw [rdL_len]; omega
  have s0 := f0.set (v := .int .i64 id) (by omega) (by rw [show (k * 3) / 3 = k by omega, show (k * 3) % 3 = 0 by omega, rdL_get hk, e]; rfl)
  have s1 := s0.set (v := .int .i64 sl) (by omega) (by rw [show (k * 3 + 1) / 3 = k by omega, show (k * 3 + 1) % 3 = 1 by omega, rdL_get hk, e]; rfl)
  have s2 := s1.set (v := .slice (some ⟨g, 0, none⟩) H.length H.length) (by omega) (by rw [show (k * 3 + 1 + 1) / 3 = k by omega, show (k * 3 + 1 + 1) % 3 = 2 by omega, rdL_get hk, e]; simp [eRd])
  have far : ∀ (x : Nat) (vs : List Value), w.heap.size < x → OwnV wr x vs → OwnV (((wr.setCell ⟨w.heap.size, k * 3, none⟩ (.int .i64 id)).setCell ⟨w.heap.size, k * 3 + 1, none⟩ (.int .i64 sl)).setCell ⟨w.heap.size, k * 3 + 2, none⟩ (.slice (some ⟨g, 0, none⟩) H.length H.length)) x vs := fun x vs hx ho =>
    farN (farN (farN ho (by omega) _ _) (by omega) _ _) (by omega) _ _
  refine ⟨by rw [show (k + 1) * 3 = k * 3 + 1 + 1 + 1 by omega]; exact s2, fun r hr => ?_, fun r s hrs hs => ?_⟩
  · by_cases hrk : r = k
    · subst hrk
      simp only [if_true]
      rw [e]
      exact ⟨hg0, far _ _ hg0 ho⟩
    · simp only [if_neg hrk]
      obtain ⟨q1, q2⟩ := h.own r (by omega)
      exact ⟨q1, far _ _ q1 q2⟩
  · by_cases hsk : s = k
    · subst hsk
      simp only [if_true]
      rw [if_neg (by omega)]
      exact hg r hrs
    · rw [if_neg (by omega), if_neg hsk]
      exact h.inc r s hrs (by omega)

theorem Try.infoRadio : (Try.prog.info? 45).map (fun i => (i.zero, i.size, i.bytes)) = some (some (vRadio 0 0 (.slice none 0 0)), 3, 40) := by kernel_rfl

set_option maxHeartbeats 1600000 in
theorem toRadioS_any (v : Value) (L : List Rad) (w : World) (h : RadsIn w v L) (hs : L.length ≤ 1048576) (hl : ∀ i, i < L.length → (L.getD i default).2.2.length ≤ 1048576) :
    Calls Try.prog 38 #[v] w fun e w' => ∃ g G, e = .returned (.slice (some ⟨g, 0, none⟩) L.length L.length) ∧ w.heap.size ≤ g ∧ OwnRd w' g G L ∧ Below w.heap.size w w' := by
  obtain ⟨ao, cap, rfl, hlc, hm, hc⟩ := h
  clear hlc hm
  have HC := hide hc
  have HL := hide hl
  clear hc hl
  have hmk := run_make_recs (P := Try.prog) 33 45 _ 3 40 Try.underlying33 Try.infoRadio .i64 .i64 L.length (by omega) (by omega)
  go_enter Try.func38, Try.ntmps38
  go_wp2
  clear hmk
  go_loopg [4] L.length (fun g i wr => ∃ k : Nat, ∃ G, k ≤ L.length ∧ g = L.length - k ∧ i = .int .i64 k ∧ FillR3 w wr L k G)
  case atStart =>
    refine ⟨0, fun _ => 0, Nat.zero_le _, rfl, rfl, ⟨?_, fun r hr => by omega, fun r s _ hs => by omega⟩⟩
    rw [Nat.zero_mul]
    have st : ∀ z t, FillC 3 eRd w (w.alloc (.cells (madeCells z (L.length * 3)) t)) (rdL L fun _ => 0) 0 := fun z t => by
      have := FillC.start (n := 3) (enc := eRd) w (rdL L fun _ => 0) z t
      rw [rdL_len] at this
      exact this
    exact st _ _
  case round =>
    obtain ⟨k, G, hk, rfl, rfl, hF⟩ := hrel
    by_cases hkn : k < L.length
    · have hkl := unhide HL k hkn
      obtain ⟨b, o, na, nc, id, sl, H, m, rfl, hc0, hc1, hc2, hr, EX, EM, hm0⟩ := radAt (unhide HC) hkn
      rw [unhide EX] at hkl
      have HT := hide fun V (hV : Below w.heap.size w V) => toRadio_any id sl na _ nc H V (hr.below hV) hkl
      have g0 := wcell3 hc0 hF.fill.below
      have g1 := wcell3 hc1 hF.fill.below
      have g2 := wcell3 hc2 hF.fill.below
      have HF := hide hF
      unfold vRadio at HT
      clear hc0 hc1 hc2 hr hF hkl
      go_wp2_with fail
      refine (unhide HT _ (unhide HF).fill.below).mono ?_
      rintro e w1 ⟨gn, rfl, hgn, hon, hb⟩
      have hlt := (unhide HF).fill.lt
      have HG : Hid (∀ r, r < k → G r < gn) := fun r hr => Nat.lt_of_lt_of_le ((unhide HF).own r hr).2.lt hgn
      have hF1 := (unhide HF).grow hb
      have hf := hF1.fill.frozen
      obtain ⟨u0', hu0⟩ := hF1.fill.cell (q := k * 3) (by rw [rdL_len]; omega)
      obtain ⟨u1', hu1⟩ := hF1.fill.cell (q := k * 3 + 1) (by rw [rdL_len]; omega)
      obtain ⟨u2', hu2⟩ := hF1.fill.cell (q := k * 3 + 2) (by rw [rdL_len]; omega)
      have HF1 := hide hF1
      have HO := hide hon
      have hgn' : w.heap.size < gn := by omega
      clear hb HF hF1 HT hon hgn hlt
      go_wp2
      go_roundg (L.length - (k + 1))
      case measure => omega
      case rel => exact ⟨k + 1, _, by omega, rfl, by go_num, (unhide HF1).next hkn (unhide EX) (unhide HG) hgn' (unhide HO)⟩
    · have hkk : k = L.length := by omega
      subst hkk
      go_wp2
      go_ret
      have hd := hF.fill
      rw [← rdL_len L G] at hd
      exact ⟨_, G, rfl, Nat.le_refl _, ⟨hd.done, hF.own, hF.inc⟩, hF.fill.below⟩

end Go.Proofs.Ytkjikjeecjendaa

/- Lists of radios: contracts of the laws' own eqRadio, eqRadioS, markRadioS. No statement about the program stands here. -/
namespace Go.Proofs.Ytkjikjeecjendaa
open Go.RowKit

set_option maxHeartbeats 1600000 in
theorem eqRadio_any (id sl : Int) (na : Option Addr) (nn nc : Nat) (na' : Option Addr) (nn' nc' : Nat) (H : List Int) (w : World) (hN : IntsIn w (.slice na nn nc) H) (hN' : IntsIn w (.slice na' nn' nc') H) :
    Calls Try.prog 75 #[vRadio id sl (.slice na nn nc), vRadio id sl (.slice na' nn' nc')] w fun e w' => e = .returned (.bool true) ∧ Below w.heap.size w w' := by
  have A := Below.step (Below.alloc1 w (.cells #[.int .i64 id, .int .i64 sl, .slice na nn nc] 45)) (Below.alloc1 _ (.cells #[.int .i64 id, .int .i64 sl, .slice na' nn' nc'] 45))
  have HE := hide (eqIntS_o _ _ H _ (hN.below A) (hN'.below A))
  have HW := hide A
  clear A hN hN'
  unfold vRadio
  go_enter Try.func75, Try.ntmps75
  go_wp2_with fail
  refine (unhide HE).mono ?_
  rintro e w2 ⟨rfl, hb⟩
  replace HW := hide (Below.step (unhide HW) hb)
  clear hb HE
  go_wp2
  go_ret
  exact ⟨rfl, unhide HW⟩

set_option maxHeartbeats 1600000 in
theorem eqRadioS_any (v v' : Value) (L : List Rad) (w : World) (h : RadsIn w v L) (h' : RadsIn w v' L) :
    Calls Try.prog 39 #[v, v'] w fun e w' => e = .returned (.bool true) ∧ Below w.heap.size w w' := by
  obtain ⟨ao, cap, rfl, hl, hm, hc⟩ := h
  obtain ⟨ao', cap', rfl, _, _, hc'⟩ := h'
  unfold maxLen at hm
  have HC := hide hc
  have HC' := hide hc'
  clear hc hc'
  go_enter Try.func39, Try.ntmps39
  go_wp2
  go_loopg [5] L.length (fun g i wr => Below w.heap.size w wr ∧ ∃ k : Nat, k ≤ L.length ∧ g = L.length - k ∧ i = .int .i64 k)
  case atStart => exact ⟨Below.refl _ _, 0, Nat.zero_le _, rfl, rfl⟩
  case round =>
    obtain ⟨hW, k, hk, rfl, rfl⟩ := hrel
    by_cases hkn : k < L.length
    · obtain ⟨b, o, na, nc, rfl, hc0, hc1, hc2, hr⟩ := unhide HC k hkn
      obtain ⟨b', o', na', nc', rfl, hd0, hd1, hd2, hr'⟩ := unhide HC' k hkn
      have S1 := hide fun x' : Gr wr => eqRadio_any (L.getD k default).1 (L.getD k default).2.1 na _ nc na' _ nc' (L.getD k default).2.2 x'.val ((hr.below hW).below x'.ok) ((hr'.below hW).below x'.ok)
      generalize L.getD k default = z at hc0 hc1 hc2 hd0 hd1 hd2 S1
      obtain ⟨id, sl, H⟩ := z
      dsimp only at hc0 hc1 hc2 hd0 hd1 hd2 S1
      have r0 := fun x' : Gr wr => gr_cell (wcell3 hc0 hW) x'
      have r0' := fun x' : Gr wr => gr_cell (wcell3 hd0 hW) x'
      have r1 := fun x' : Gr wr => gr_cell (wcell3 hc1 hW) x'
      have r1' := fun x' : Gr wr => gr_cell (wcell3 hd1 hW) x'
      have r2 := fun x' : Gr wr => gr_cell (wcell3 hc2 hW) x'
      have r2' := fun x' : Gr wr => gr_cell (wcell3 hd2 hW) x'
      unfold vRadio at S1
      have HW := hide hW
      have gsome := gr_some wr
      clear hc0 hc1 hc2 hd0 hd1 hd2 hW hr hr'
      go_wp2
      refine wp_region_grown (by kernel_rfl) (by kernel_rfl) ?_
      repeat (go_big_quiet_step (fail))
      go_big_quiet_want
      go_big_quiet_op
      go_big_quiet_call (exact calls_grown (unhide S1 _))
      repeat (go_big_quiet_step (fail))
      refine wpQuiet_nil ?_
      intro w1 hw1
      obtain ⟨z', hz⟩ := hw1
      have hb1 : Below wr.heap.size wr w1 := hz ▸ z'.ok
      clear hz gsome
      go_wp2
      go_roundg (L.length - (k + 1))
      case measure => omega
      case rel => exact ⟨Below.step (unhide HW) hb1, k + 1, by omega, rfl, by go_num⟩
    · go_wp2
      go_ret
      exact ⟨rfl, hW⟩

/-- The blocks of a list of radios of the call's own. -/
def RdBl (g : Nat) (G : Nat → Nat) (n : Nat) (b : Nat) : Prop := b = g ∨ ∃ r, r < n ∧ b = G r
/-- What is marked, from k0 on. -/
def mkR : List Rad → Int → List Rad
  | [], _ => []
  | (_, _, H) :: L, k => (k, k + 1, marks (k + 2) H.length) :: mkR L (k + 2 + H.length)
def endR : List Rad → Int → Int
  | [], k => k
  | (_, _, H) :: L, k => endR L (k + 2 + H.length)
theorem mkR_len (L : List Rad) : ∀ k, (mkR L k).length = L.length := by
  induction L with
  | nil => intro k; rfl
  | cons a L ih => intro k; simp [mkR, ih]
theorem mkR_get (L : List Rad) : ∀ (k : Int) (i : Nat), i < L.length → (mkR L k).getD i default = (endR (L.take i) k, endR (L.take i) k + 1, marks (endR (L.take i) k + 2) (L.getD i default).2.2.length) := by
  induction L with
  | nil => intro k i hi; simp at hi
  | cons a L ih =>
    intro k i hi
    cases i with
    | zero => simp [mkR, endR, List.getD]
    | succ i =>
      have := ih (k + 2 + a.2.2.length) i (by simpa using hi)
      simp only [List.getD] at this ⊢
      simp [mkR, endR, this]
theorem endR_snoc (L : List Rad) : ∀ (k : Int) (i : Nat), i < L.length → endR (L.take (i + 1)) k = endR (L.take i) k + 2 + ((L.getD i default).2.2.length : Int) := by
  induction L with
  | nil => intro k i hi; simp at hi
  | cons a L ih =>
    intro k i hi
    cases i with
    | zero => simp [endR, List.getD]
    | succ i =>
      have := ih (k + 2 + a.2.2.length) i (by simpa using hi)
      simp only [List.getD] at this ⊢
      simp [endR, this]
theorem endR_bd (L : List Rad) (hl : ∀ i, i < L.length → (L.getD i default).2.2.length ≤ 1048576) (k : Int) : ∀ i, i ≤ L.length → k ≤ endR (L.take i) k ∧ endR (L.take i) k ≤ k + (i : Int) * 1048578 := by
  intro i
  induction i with
  | zero => intro _; simp [endR]
  | succ i ih =>
    intro hi
    obtain ⟨h1, h2⟩ := ih (by omega)
    rw [endR_snoc L k i (by omega)]
    have := hl i (by omega)
    refine ⟨by omega, ?_⟩
    have e : ((i + 1 : Nat) : Int) * 1048578 = (i : Int) * 1048578 + 1048578 := by omega
    omega

/-- Up to the k-th the radios are marked, from it on they stand as they were. -/
structure MarkR (w wr : World) (g : Nat) (G : Nat → Nat) (L : List Rad) (k0 : Int) (k : Nat) : Prop where
  kept : Kept (RdBl g G L.length) w wr
  row : ∃ vs, OwnV wr g vs ∧ vs.length = L.length * 3 ∧ (∀ r, r < L.length → vs[r * 3 + 2]? = some (.slice (some ⟨G r, 0, none⟩) (L.getD r default).2.2.length (L.getD r default).2.2.length)) ∧ (∀ r, r < k → vs[r * 3]? = some (.int .i64 (endR (L.take r) k0)) ∧ vs[r * 3 + 1]? = some (.int .i64 (endR (L.take r) k0 + 1)))
  own : ∀ r, k ≤ r → r < L.length → OwnV wr (G r) (ints (L.getD r default).2.2)
  done : ∀ r, r < k → r < L.length → OwnV wr (G r) (ints (marks (endR (L.take r) k0 + 2) (L.getD r default).2.2.length))
  beh : ∀ r, r < L.length → g < G r
  inc : ∀ r s, r < s → s < L.length → G r < G s
theorem MarkR.start {w : World} {g : Nat} {G : Nat → Nat} {L : List Rad} (h : OwnRd w g G L) (k0 : Int) : MarkR w w g G L k0 0 := by
  refine ⟨Kept.refl _ _, ⟨_, h.1, by rw [recCells_length, rdL_len], fun r hr => ?_, fun r hr => by omega⟩, fun r _ hr => (h.2.1 r hr).2, fun r hr => by omega, fun r hr => (h.2.1 r hr).1, h.2.2⟩
  have hq : r * 3 + 2 < (rdL L G).length * 3 := by rw [rdL_len]; omega
  have e1 : (r * 3 + 2) / 3 = r := by omega
  have e2 : (r * 3 + 2) % 3 = 2 := by omega
  have e3 := rdL_get (L := L) (G := G) hr
  simp only [recCells, List.getElem?_map, List.getElem?_range hq, Option.map_some, e1, e2, e3, eRd]
/-- One radio more: its two numbers and then its places. -/
theorem MarkR.next {w wr w1 : World} {g : Nat} {G : Nat → Nat} {L : List Rad} {k0 : Int} {k : Nat} (h : MarkR w wr g G L k0 k) (hk : k < L.length) {q : Int} (hqe : q = endR (L.take k) k0)
    (hq : Kept (fun b => b = G k) ((wr.setCell ⟨g, k * 3, none⟩ (.int .i64 q)).setCell ⟨g, k * 3 + 1, none⟩ (.int .i64 (q + 1))) w1) (ho1 : OwnV w1 (G k) (ints (marks (q + 2) (L.getD k default).2.2.length))) : MarkR w w1 g G L k0 (k + 1) := by
  obtain ⟨vs, ho, hl, hc, hd⟩ := h.row
  have hgk := h.beh k hk
  have ho2 := (ho.set (k * 3) (.int .i64 q) (by omega)).set (k * 3 + 1) (.int .i64 (q + 1)) (by rw [List.length_set]; omega)
  have far : ∀ r, r < L.length → r ≠ k → ∀ vs', OwnV wr (G r) vs' → OwnV w1 (G r) vs' := fun r hr hrk vs' hv => by
    have hgr := h.beh r hr
    have hne : G r ≠ G k := by
      rcases Nat.lt_or_gt_of_ne hrk with hx | hx
      · have := h.inc r k hx hk; omega
      · have := h.inc k r hx hr; omega
    exact (farN (farN hv (by omega) _ _) (by omega) _ _).kept hq hne
  refine ⟨((h.kept.setCell (p := ⟨g, k * 3, none⟩) (Or.inl rfl) _).setCell (p := ⟨g, k * 3 + 1, none⟩) (Or.inl rfl) _).trans (hq.mono fun b _ e => Or.inr ⟨k, hk, e⟩), ⟨_, ho2.kept hq (by omega), by simpa using hl, fun r hr => ?_, fun r hr => ?_⟩, fun r h1 h2 => ?_, fun r h1 h2 => ?_, h.beh, h.inc⟩
  · rw [List.getElem?_set_ne (by omega), List.getElem?_set_ne (by omega)]
    exact hc r hr
  · by_cases e : r = k
    · subst e
      constructor
      · rw [List.getElem?_set_ne (by omega), List.getElem?_set_self (by omega), hqe]
      · rw [List.getElem?_set_self (by rw [List.length_set]; omega), hqe]
    · obtain ⟨d0, d1⟩ := hd r (by omega)
      exact ⟨by rw [List.getElem?_set_ne (by omega), List.getElem?_set_ne (by omega)]; exact d0, by rw [List.getElem?_set_ne (by omega), List.getElem?_set_ne (by omega)]; exact d1⟩
  · exact far r h2 (by omega) _ (h.own r (by omega) h2)
  · by_cases e : r = k
    · subst e; rw [← hqe]; exact ho1
    · exact far r h2 e _ (h.done r (by omega) h2)

set_option maxHeartbeats 1600000 in
theorem markRadioS_any (g cap : Nat) (G : Nat → Nat) (L : List Rad) (k0 : Int) (w : World) (h : OwnRd w g G L) (hs : L.length ≤ 1048576) (hl : ∀ i, i < L.length → (L.getD i default).2.2.length ≤ 1048576) (hk0 : 0 ≤ k0) (hk1 : k0 ≤ 1073741824) :
    Calls Try.prog 42 #[.slice (some ⟨g, 0, none⟩) L.length cap, .int .i64 k0] w fun e w' => e = .returned (.int .i64 (endR L k0)) ∧ MarkR w w' g G L k0 L.length := by
  have HL := hide hl
  have HE := hide (endR_bd L hl k0)
  have HM := hide (MarkR.start h k0)
  clear hl h
  go_enter Try.func42, Try.ntmps42
  go_wp2
  go_loopg [1, 5] L.length (fun gg kv iv wr => ∃ k : Nat, k ≤ L.length ∧ gg = L.length - k ∧ iv = .int .i64 k ∧ kv = .int .i64 (endR (L.take k) k0) ∧ Hid (MarkR w wr g G L k0 k))
  case atStart => exact ⟨0, Nat.zero_le _, rfl, rfl, by simp [endR], HM⟩
  case round =>
    obtain ⟨k, hk, rfl, rfl, rfl, HU⟩ := hrel
    have hbd := unhide HE k hk
    by_cases hkn : k < L.length
    · obtain ⟨vs, ho, hvl, hvc, hvd⟩ := (unhide HU).row
      have hc1 := ho.cell (hvc k hkn)
      obtain ⟨u0, hu0⟩ : ∃ u, wr.cell? ⟨g, k * 3, none⟩ = some u := ⟨vs[k * 3]'(by omega), ho.cell (List.getElem?_eq_getElem (by omega))⟩
      obtain ⟨u1, hu1⟩ : ∃ u, wr.cell? ⟨g, k * 3 + 1, none⟩ = some u := ⟨vs[k * 3 + 1]'(by omega), ho.cell (List.getElem?_eq_getElem (by omega))⟩
      have hf0 := ho.frozen (k * 3)
      have hf1 := ho.frozen (k * 3 + 1)
      have hUl := unhide HL k hkn
      have hgk := (unhide HU).beh k hkn
      have hok := (unhide HU).own k (Nat.le_refl _) hkn
      have hSN := endR_snoc L k0 k hkn
      obtain ⟨q, hq⟩ : ∃ q, q = endR (L.take k) k0 := ⟨_, rfl⟩
      have HNX := hide fun w1 => (unhide HU).next (w1 := w1) hkn hq
      have HQ := hide hq
      rw [← hq] at hbd hSN ⊢
      have hq0 : 0 ≤ q := by omega
      have hq1 : q ≤ 1073741824 + 1048576 * 1048578 := by
        have : (k : Int) * 1048578 ≤ 1048576 * 1048578 := Int.mul_le_mul_of_nonneg_right (by omega) (by omega)
        omega
      have HMN := hide (markIntS_any (some ⟨G k, 0, none⟩) (L.getD k default).2.2.length (L.getD k default).2.2 (q + 2) (G k) ((wr.setCell ⟨g, k * 3, none⟩ (.int .i64 q)).setCell ⟨g, k * 3 + 1, none⟩ (.int .i64 (q + 1))) (fun _ => ⟨rfl, farN (farN hok (by omega) _ _) (by omega) _ _⟩) hUl (by omega) (by omega))
      rw [show q + 2 = q + 1 + 1 by omega] at HMN
      have HOK := hide (farN (farN hok (show G k ≠ g by omega) (k * 3) (.int .i64 q)) (show G k ≠ g by omega) (k * 3 + 1) (.int .i64 (q + 1)))
      have HSN := hide hSN
      generalize (L.getD k default).2.2 = H at *
      clear ho hvl hvc hvd hok hSN hq HU hbd
      have hn1 : ¬ k * 3 = k * 3 + 1 := by omega
      go_wp2_with fail
      refine (unhide HMN).mono ?_
      rintro e w1 ⟨rfl, hkp, hon⟩
      have HU2 := hide (unhide HNX w1 (hkp.mono fun b _ e => e.1) (by
        by_cases hne : H = []
        · subst hne
          exact (unhide HOK).kept hkp (fun e => e.2 rfl)
        · rw [show q + 2 = q + 1 + 1 by omega]; exact hon hne))
      clear hkp hon HMN HNX HOK
      go_wp2
      go_roundg (L.length - (k + 1))
      case measure => omega
      case rel => exact ⟨k + 1, by omega, rfl, by go_num, by rw [unhide HSN]; congr 1; omega, HU2⟩
    · have hkk : k = L.length := by omega
      subst hkk
      rw [List.take_length]
      go_wp2
      go_ret
      exact ⟨rfl, unhide HU⟩

end Go.Proofs.Ytkjikjeecjendaa

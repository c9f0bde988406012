/- Frames: the specification's l9Three, ReadReport. Written by wip/mkfm4.py. -/
import Derived.Test.YtkjikjeecjendaaFmH
namespace Go.Proofs.Ytkjikjeecjendaa
open Go.RowKit

theorem numB_cut0 (L : List Byte) (f : Nat) : numB (cutB L f f) = 0 := by simp [cutB, numB]
theorem numB_cut (L : List Byte) {f t : Nat} (hf : f ≤ t) (ht : t < L.length) : numB (cutB L f (t + 1)) = numB (cutB L f t) * 256 + (L.getD t default).val := by
  unfold cutB
  rw [show t + 1 - f = (t - f) + 1 by omega, take_snoc (L.drop f) (by rw [List.length_drop]; omega), numB_snoc]
  congr 2
  simp only [List.getD, List.getElem?_drop]
  rw [show f + (t - f) = t by omega]

set_option maxRecDepth 10000 in
set_option maxHeartbeats 3200000 in
theorem l9Three5_any (b o cap : Nat) (L : List Byte) (w : World) (h : FrAt w b o L) (hl : L.length = 16) :
    Calls Try.prog 71 #[.slice (some ⟨b, o, none⟩) 16 cap, .int .i64 5] w fun e w' => e = .returned (.int .i64 (fixB (numB (cutB L 5 8)))) ∧ Below w.heap.size w w' := by
  have hN : numB (cutB L 5 8) = (L.getD 5 default).val * 65536 + (L.getD 6 default).val * 256 + (L.getD 7 default).val := by
    rw [numB_cut L (by omega) (by omega), numB_cut L (by omega) (by omega), numB_cut L (by omega) (by omega), numB_cut0]
    omega
  have c0 := h 5 (by omega)
  have c1 := h 6 (by omega)
  have c2 := h 7 (by omega)
  have by0 := (L.getD 5 default).isLt
  have by1 := (L.getD 6 default).isLt
  have by2 := (L.getD 7 default).isLt
  unfold eB at c0 c1 c2
  generalize (L.getD 5 default).val = b0 at *
  generalize (L.getD 6 default).val = b1 at *
  generalize (L.getD 7 default).val = b2 at *
  generalize numB (cutB L 5 8) = n at *
  have HT : Hid (fixB n = if 8388607 < (n : Int) then (n : Int) - 16777216 else n) := rfl
  generalize fixB n = r at *
  have hE : (b0 : Int) * 65536 + (b1 : Int) * 256 + (b2 : Int) = (n : Int) := by omega
  have hlt : n < 16777216 := by omega
  have HNN := hide hN
  clear hN h hl
  go_enter Try.func71, Try.ntmps71
  go_wp2
  go_quiet (fail)
  have hB := below_drewN (Below.refl w.heap.size w) nq
  generalize w.drewN nq = w2 at *
  have HB := hide hB
  clear hB c0 c1 c2 HNN hE
  by_cases hn : 8388607 < (n : Int)
  · rw [if_pos hn] at HT
    go_wp2
    go_ret
    exact ⟨by rw [unhide HT]; rfl, unhide HB⟩
  · rw [if_neg hn] at HT
    go_wp2
    go_ret
    exact ⟨by rw [unhide HT]; rfl, unhide HB⟩

set_option maxRecDepth 10000 in
set_option maxHeartbeats 3200000 in
theorem l9Three8_any (b o cap : Nat) (L : List Byte) (w : World) (h : FrAt w b o L) (hl : L.length = 16) :
    Calls Try.prog 71 #[.slice (some ⟨b, o, none⟩) 16 cap, .int .i64 8] w fun e w' => e = .returned (.int .i64 (fixB (numB (cutB L 8 11)))) ∧ Below w.heap.size w w' := by
  have hN : numB (cutB L 8 11) = (L.getD 8 default).val * 65536 + (L.getD 9 default).val * 256 + (L.getD 10 default).val := by
    rw [numB_cut L (by omega) (by omega), numB_cut L (by omega) (by omega), numB_cut L (by omega) (by omega), numB_cut0]
    omega
  have c0 := h 8 (by omega)
  have c1 := h 9 (by omega)
  have c2 := h 10 (by omega)
  have by0 := (L.getD 8 default).isLt
  have by1 := (L.getD 9 default).isLt
  have by2 := (L.getD 10 default).isLt
  unfold eB at c0 c1 c2
  generalize (L.getD 8 default).val = b0 at *
  generalize (L.getD 9 default).val = b1 at *
  generalize (L.getD 10 default).val = b2 at *
  generalize numB (cutB L 8 11) = n at *
  have HT : Hid (fixB n = if 8388607 < (n : Int) then (n : Int) - 16777216 else n) := rfl
  generalize fixB n = r at *
  have hE : (b0 : Int) * 65536 + (b1 : Int) * 256 + (b2 : Int) = (n : Int) := by omega
  have hlt : n < 16777216 := by omega
  have HNN := hide hN
  clear hN h hl
  go_enter Try.func71, Try.ntmps71
  go_wp2
  go_quiet (fail)
  have hB := below_drewN (Below.refl w.heap.size w) nq
  generalize w.drewN nq = w2 at *
  have HB := hide hB
  clear hB c0 c1 c2 HNN hE
  by_cases hn : 8388607 < (n : Int)
  · rw [if_pos hn] at HT
    go_wp2
    go_ret
    exact ⟨by rw [unhide HT]; rfl, unhide HB⟩
  · rw [if_neg hn] at HT
    go_wp2
    go_ret
    exact ⟨by rw [unhide HT]; rfl, unhide HB⟩

def ERr3 (_b _o _cap _by14 _by15 _cc : Nat) (_D : Bool) (w : World) (_L : Nat → Bool) (_us : Nat → Value) : Nat → Option (Nat × List Value)
  | 0 => some (w.heap.size, [.int .i64 0, .int .i64 0, .int .i64 0, .int .i64 0, .int .i64 0, .int .i64 0])
  | _ => none
def FRr3 (b o cap by14 by15 cc : Nat) (D : Bool) : FL := [(0, 10, .slice (some ⟨b, o, none⟩) 16 cap), (1, 11, .int .i64 (cc : Int)), (2, 12, .slice (some ⟨b, o, none⟩) 16 cap), (3, 13, .pointer (some ⟨b, o + 14, none⟩)), (4, 14, .int .u8 (by14 : Int)), (5, 15, .int .i64 (by14 : Int)), (6, 16, .int .i64 ((by14 : Int) * 256)), (7, 17, .slice (some ⟨b, o, none⟩) 16 cap), (8, 18, .pointer (some ⟨b, o + 15, none⟩)), (9, 19, .int .u8 (by15 : Int)), (10, 20, .int .i64 (by15 : Int)), (11, 21, .int .i64 ((by14 : Int) * 256 + (by15 : Int))), (12, 22, .bool D)]
def RRr3 (b o cap by14 by15 cc : Nat) (D : Bool) (w : World) (L : Nat → Bool) (us : Nat → Value) (W : World) : Prop :=
  Facts L us (FRr3 b o cap by14 by15 cc D) ∧ Bk w W (ERr3 b o cap by14 by15 cc D w L us)
def XRr3 (_b _o _cap _by14 _by15 _cc : Nat) (_D : Bool) (w : World) : Nat → Option (Nat × List Value)
  | 0 => some (w.heap.size, [.int .i64 0, .int .i64 0, .int .i64 0, .int .i64 0, .int .i64 0, .int .i64 0])
  | _ => none
def ERr6 (_b _o _cap by0 by11 by12 n1 : Nat) (x3 y3 : Int) (w : World) (L : Nat → Bool) (us : Nat → Value) : Nat → Option (Nat × List Value)
  | 0 => some (w.heap.size, [.int .i64 0, .int .i64 0, .int .i64 0, .int .i64 0, .int .i64 0, .int .i64 0])
  | 1 => if L 18 then some ((gOf (us 5)), (if L 19 then [.int .i64 (by0 : Int), .int .i64 (n1 : Int), .int .i64 x3, .int .i64 y3, .int .i64 (by11 : Int), .int .i64 (by12 : Int)] else [.int .i64 0, .int .i64 0, .int .i64 0, .int .i64 0, .int .i64 0, .int .i64 0])) else none
  | _ => none
def FRr6 (b o cap by0 by11 by12 n1 : Nat) (x3 y3 : Int) : FL := [(0, 46, .slice (some ⟨b, o, none⟩) 16 cap), (1, 47, .pointer (some ⟨b, o + 0, none⟩)), (2, 48, .int .u8 (by0 : Int)), (3, 49, .int .i64 (by0 : Int)), (4, 50, .int .i64 (n1 : Int)), (5, 51, .slice (some ⟨b, o, none⟩) 16 cap), (6, 52, .int .i64 x3), (7, 53, .slice (some ⟨b, o, none⟩) 16 cap), (8, 54, .int .i64 y3), (9, 55, .slice (some ⟨b, o, none⟩) 16 cap), (10, 56, .pointer (some ⟨b, o + 11, none⟩)), (11, 57, .int .u8 (by11 : Int)), (12, 58, .int .i64 (by11 : Int)), (13, 59, .slice (some ⟨b, o, none⟩) 16 cap), (14, 60, .pointer (some ⟨b, o + 12, none⟩)), (15, 61, .int .u8 (by12 : Int)), (16, 62, .int .i64 (by12 : Int)), (17, 63, .agg #[.int .i64 (by0 : Int), .int .i64 (n1 : Int), .int .i64 x3, .int .i64 y3, .int .i64 (by11 : Int), .int .i64 (by12 : Int)])]
def RRr6 (b o cap by0 by11 by12 n1 : Nat) (x3 y3 : Int) (w : World) (L : Nat → Bool) (us : Nat → Value) (W : World) : Prop :=
  Facts L us (FRr6 b o cap by0 by11 by12 n1 x3 y3) ∧ (L 18 = true → us 5 = .pointer (some ⟨gOf (us 5), 0, none⟩)) ∧ (L 19 = true → L 18 = true) ∧ Bk w W (ERr6 b o cap by0 by11 by12 n1 x3 y3 w L us)
def XRr6 (_b _o _cap by0 by11 by12 n1 : Nat) (x3 y3 : Int) (w : World) (g5 : Nat) : Nat → Option (Nat × List Value)
  | 0 => some (w.heap.size, [.int .i64 0, .int .i64 0, .int .i64 0, .int .i64 0, .int .i64 0, .int .i64 0])
  | 1 => some (g5, [.int .i64 (by0 : Int), .int .i64 (n1 : Int), .int .i64 x3, .int .i64 y3, .int .i64 (by11 : Int), .int .i64 (by12 : Int)])
  | _ => none

set_option maxRecDepth 10000 in
set_option maxHeartbeats 3200000 in
theorem specReadReport_any (v : Value) (L : List Byte) (w : World) (h : ByIn w v L) :
    Calls Try.prog 33 #[v] w fun e w' => e = .returned (.tuple #[readV L, .int .i64 (readC L)]) ∧ Below w.heap.size w w' := by
  have hby := h
  obtain ⟨ao, cap, rfl, hlc, hm, hc⟩ := h
  unfold maxLen at hm
  have HB := hide (Below.alloc1 w (.cells #[.int .i64 0, .int .i64 0, .int .i64 0, .int .i64 0, .int .i64 0, .int .i64 0] 25))
  have HBK := hide (bk_one w #[.int .i64 0, .int .i64 0, .int .i64 0, .int .i64 0, .int .i64 0, .int .i64 0] 25)
  by_cases hl : L.length = 16
  case neg =>
    have HN := hide (readC_len hl)
    have hne : ((L.length : Int) != 16) = true := by rw [bne_iff_ne]; omega
    clear hc hby
    generalize L.length = m at *
    clear hl
    go_enter Try.func33, Try.ntmps33
    go_wp2
    refine bodyPost_ret (v := .tuple #[vReport 0 0 0 0 0 0, .int .i64 1]) (by simp [results, Try.results33, go_sem, vReport]) rfl ⟨by rw [readV_not (unhide HN) (by omega), unhide HN], ?_⟩
    first | exact unhide HB | exact ((((((unhide HB).setCell (Nat.le_refl _) _).setCell (Nat.le_refl _) _).setCell (Nat.le_refl _) _).setCell (Nat.le_refl _) _).setCell (Nat.le_refl _) _).setCell (Nat.le_refl _) _
  clear HB
  obtain ⟨b, o, rfl, -⟩ := hc 0 (by omega)
  have hfr := ByIn.frAt hby
  rw [hl] at hby hlc ⊢
  have PC := hide fun W (hW : Below w.heap.size w W) => same_below (l9Check_any _ _ _ L W (hby.below hW) (by omega))
  have P5 := hide fun W (hW : Below w.heap.size w W) => l9Three5_any b o cap L W (hfr.below hW) hl
  have P8 := hide fun W (hW : Below w.heap.size w W) => l9Three8_any b o cap L W (hfr.below hW) hl
  have PK := hide fun W => specReportOk_any (numB (cutB L 0 1)) (numB (cutB L 1 5)) (fixB (numB (cutB L 5 8))) (fixB (numB (cutB L 8 11))) (numB (cutB L 11 12)) (numB (cutB L 12 13)) W
  have Hbad := hide fun h3 h' => readC_bad hl h' h3
  have Hok := hide fun h3 h4 h' => readC_ok hl h' h3 h4
  have Hchk := hide fun h' => readC_chk hl h'
  have HV : Hid (repOf L = vReport (numB (cutB L 0 1)) (numB (cutB L 1 5)) (fixB (numB (cutB L 5 8))) (fixB (numB (cutB L 8 11))) (numB (cutB L 11 12)) (numB (cutB L 12 13))) := rfl
  have HRB : Hid (repBOf L = repB (numB (cutB L 0 1)) (numB (cutB L 1 5)) (fixB (numB (cutB L 5 8))) (fixB (numB (cutB L 8 11))) (numB (cutB L 11 12)) (numB (cutB L 12 13))) := rfl
  have q0 : numB (cutB L 0 1) = (L.getD 0 default).val := by
    rw [numB_cut L (by omega) (by omega), numB_cut0]
    omega
  have q1 : numB (cutB L 1 5) = ((((L.getD 1 default).val) * 256 + (L.getD 2 default).val) * 256 + (L.getD 3 default).val) * 256 + (L.getD 4 default).val := by
    rw [numB_cut L (by omega) (by omega), numB_cut L (by omega) (by omega), numB_cut L (by omega) (by omega), numB_cut L (by omega) (by omega), numB_cut0]
    omega
  have q11 : numB (cutB L 11 12) = (L.getD 11 default).val := by
    rw [numB_cut L (by omega) (by omega), numB_cut0]
    omega
  have q12 : numB (cutB L 12 13) = (L.getD 12 default).val := by
    rw [numB_cut L (by omega) (by omega), numB_cut0]
    omega
  have q14 : numB (cutB L 14 16) = ((L.getD 14 default).val) * 256 + (L.getD 15 default).val := by
    rw [numB_cut L (by omega) (by omega), numB_cut L (by omega) (by omega), numB_cut0]
    omega
  have h0 := hfr 0 (by omega)
  have lz0 := (L.getD 0 default).isLt
  have h1 := hfr 1 (by omega)
  have lz1 := (L.getD 1 default).isLt
  have h2 := hfr 2 (by omega)
  have lz2 := (L.getD 2 default).isLt
  have h3 := hfr 3 (by omega)
  have lz3 := (L.getD 3 default).isLt
  have h4 := hfr 4 (by omega)
  have lz4 := (L.getD 4 default).isLt
  have h11 := hfr 11 (by omega)
  have lz11 := (L.getD 11 default).isLt
  have h12 := hfr 12 (by omega)
  have lz12 := (L.getD 12 default).isLt
  have h13 := hfr 13 (by omega)
  have lz13 := (L.getD 13 default).isLt
  have h14 := hfr 14 (by omega)
  have lz14 := (L.getD 14 default).isLt
  have h15 := hfr 15 (by omega)
  have lz15 := (L.getD 15 default).isLt
  unfold eB at h0 h1 h2 h3 h4 h11 h12 h13 h14 h15
  rw [Nat.add_zero] at h0
  generalize fixB (numB (cutB L 5 8)) = x3 at *
  generalize fixB (numB (cutB L 8 11)) = y3 at *
  generalize numB (cutB L 1 5) = n1 at *
  generalize numB (cutB L 14 16) = nn at *
  rw [q0, q11, q12] at PK HV HRB
  clear q0 q11 q12
  generalize (L.getD 0 default).val = by0 at *
  generalize (L.getD 1 default).val = by1 at *
  generalize (L.getD 2 default).val = by2 at *
  generalize (L.getD 3 default).val = by3 at *
  generalize (L.getD 4 default).val = by4 at *
  generalize (L.getD 11 default).val = by11 at *
  generalize (L.getD 12 default).val = by12 at *
  generalize (L.getD 13 default).val = by13 at *
  generalize (L.getD 14 default).val = by14 at *
  generalize (L.getD 15 default).val = by15 at *
  have hcl := crcL_lt (L.take 14)
  generalize crcL (L.take 14) = cc at *
  have hE1 : (by1 : Int) * 16777216 + (by2 : Int) * 65536 + (by3 : Int) * 256 + (by4 : Int) = (n1 : Int) := by omega
  have hn1 : n1 < 4294967296 := by omega
  have hD0 : decide (nn = cc) = !((cc : Int) != (by14 : Int) * 256 + (by15 : Int)) := by
    by_cases e : nn = cc
    · rw [decide_eq_true e, show ((cc : Int) != (by14 : Int) * 256 + (by15 : Int)) = false from by rw [bne_eq_false_iff_eq]; omega]; rfl
    · rw [decide_eq_false e, show ((cc : Int) != (by14 : Int) * 256 + (by15 : Int)) = true from by rw [bne_iff_ne]; omega]; rfl
  obtain ⟨D, hD⟩ : ∃ D, ((cc : Int) != (by14 : Int) * 256 + (by15 : Int)) = D := ⟨_, rfl⟩
  rw [hD] at hD0
  have HD := hide hD0
  clear hD0 q1 q14 hc hby hfr hl
  unfold vReport at PK
  go_enter Try.func33, Try.ntmps33
  go_wp2_with fail
  have hw0 : IntKind.i64.wrap ((by0 : Int)) = (by0 : Int) := by rw [IntKind.wrap_i64]; omega
  have hw11 : IntKind.i64.wrap ((by11 : Int)) = (by11 : Int) := by rw [IntKind.wrap_i64]; omega
  have hw12 : IntKind.i64.wrap ((by12 : Int)) = (by12 : Int) := by rw [IntKind.wrap_i64]; omega
  have hw14 : IntKind.i64.wrap ((by14 : Int)) = (by14 : Int) := by rw [IntKind.wrap_i64]; omega
  have hw15 : IntKind.i64.wrap ((by15 : Int)) = (by15 : Int) := by rw [IntKind.wrap_i64]; omega
  have hws : IntKind.i64.wrap ((by14 : Int) * 256) = (by14 : Int) * 256 := by rw [IntKind.wrap_i64]; omega
  have hwt : IntKind.i64.wrap ((by14 : Int) * 256 + (by15 : Int)) = (by14 : Int) * 256 + (by15 : Int) := by rw [IntKind.wrap_i64]; omega
  have HB0 : Hid (∀ us, Bk w _ (ERr3 b o cap by14 by15 cc D w (fun _ => false) us)) := hide (fun us => ((unhide HBK)).congr (fun k => by rcases k with _ | k <;> simp [ERr3, E1]))
  refine wp_region_slots [10, 11, 12, 13, 14, 15, 16, 17, 18, 19, 20, 21, 22] (RRr3 b o cap by14 by15 cc D w) (by kernel_rfl) (by kernel_rfl) (by decide) (by kernel_rfl) ?_ ?_ ?_
  · intro us
    exact ⟨facts_start us _, (unhide HB0 us).drew⟩
  · clear HB0
    refine StepsR.cons 1 rfl ?_ ?_
    · intro L us W hi hdep hR Kx hNx
      have hF := hide hR.1
      have hB := hR.2
      clear hR
      clear hdep
      have HB := hide hB
      clear hB
      simp only [fillA, Act.put, List.setIfInBounds_toArray, List.set_cons_zero, List.set_cons_succ] at hNx ⊢
      rw [if_pos (by rfl)]
      go_simp
      first | refine hNx _ _ ?_ | skip
      exact ⟨(unhide hF).step rfl rfl, (unhide HB).congr (fun k => by rcases k with _ | k <;> simp [ERr3])⟩
    refine StepsR.cons 2 rfl ?_ ?_
    · intro L us W hi hdep hR Kx hNx
      have hF := hide hR.1
      have hB := hR.2
      clear hR
      have d0 : L 0 = true := hdep 0 (by kernel_rfl)
      clear hdep
      have e10 : us 10 = .slice (some ⟨b, o, none⟩) 16 cap := (unhide hF).get (k := 0) rfl d0
      have HB := hide hB
      clear hB
      simp only [fillA, Act.put, List.setIfInBounds_toArray, List.set_cons_zero, List.set_cons_succ] at hNx ⊢
      simp only [e10] at hNx ⊢
      clear e10
      rw [if_pos (by rfl)]
      have HC := hide (unhide PC W (unhide HB).below)
      go_simp
      refine (unhide HC).mono ?_
      rintro e W' ⟨rfl, hb⟩
      replace HB := hide ((unhide HB).step hb)
      clear hb HC
      go_wp2_with fail
      first | refine hNx _ _ ?_ | skip
      exact ⟨(unhide hF).step rfl rfl, (unhide HB).congr (fun k => by rcases k with _ | k <;> simp [ERr3])⟩
    refine StepsR.cons 3 rfl ?_ ?_
    · intro L us W hi hdep hR Kx hNx
      have hF := hide hR.1
      have hB := hR.2
      clear hR
      clear hdep
      have HB := hide hB
      clear hB
      simp only [fillA, Act.put, List.setIfInBounds_toArray, List.set_cons_zero, List.set_cons_succ] at hNx ⊢
      rw [if_pos (by rfl)]
      go_simp
      first | refine hNx _ _ ?_ | skip
      exact ⟨(unhide hF).step rfl rfl, (unhide HB).congr (fun k => by rcases k with _ | k <;> simp [ERr3])⟩
    refine StepsR.cons 4 rfl ?_ ?_
    · intro L us W hi hdep hR Kx hNx
      have hF := hide hR.1
      have hB := hR.2
      clear hR
      have d2 : L 2 = true := hdep 2 (by kernel_rfl)
      clear hdep
      have e12 : us 12 = .slice (some ⟨b, o, none⟩) 16 cap := (unhide hF).get (k := 2) rfl d2
      have HB := hide hB
      clear hB
      simp only [fillA, Act.put, List.setIfInBounds_toArray, List.set_cons_zero, List.set_cons_succ] at hNx ⊢
      simp only [e12] at hNx ⊢
      clear e12
      rw [if_pos (by rfl)]
      go_simp
      first | refine hNx _ _ ?_ | skip
      exact ⟨(unhide hF).step rfl rfl, (unhide HB).congr (fun k => by rcases k with _ | k <;> simp [ERr3])⟩
    refine StepsR.cons 5 rfl ?_ ?_
    · intro L us W hi hdep hR Kx hNx
      have hF := hide hR.1
      have hB := hR.2
      clear hR
      have d3 : L 3 = true := hdep 3 (by kernel_rfl)
      clear hdep
      have e13 : us 13 = .pointer (some ⟨b, o + 14, none⟩) := (unhide hF).get (k := 3) rfl d3
      have HB := hide hB
      clear hB
      simp only [fillA, Act.put, List.setIfInBounds_toArray, List.set_cons_zero, List.set_cons_succ] at hNx ⊢
      simp only [e13] at hNx ⊢
      clear e13
      rw [if_pos (by rfl)]
      have hcx := ((unhide HB).below.cell (lt_of_cell h14)).trans h14
      go_simp
      first | refine hNx _ _ ?_ | skip
      exact ⟨(unhide hF).step rfl rfl, (unhide HB).congr (fun k => by rcases k with _ | k <;> simp [ERr3])⟩
    refine StepsR.cons 6 rfl ?_ ?_
    · intro L us W hi hdep hR Kx hNx
      have hF := hide hR.1
      have hB := hR.2
      clear hR
      have d4 : L 4 = true := hdep 4 (by kernel_rfl)
      clear hdep
      have e14 : us 14 = .int .u8 (by14 : Int) := (unhide hF).get (k := 4) rfl d4
      have HB := hide hB
      clear hB
      simp only [fillA, Act.put, List.setIfInBounds_toArray, List.set_cons_zero, List.set_cons_succ] at hNx ⊢
      simp only [e14] at hNx ⊢
      clear e14
      rw [if_pos (by rfl)]
      go_simp
      first | refine hNx _ _ ?_ | skip
      exact ⟨(unhide hF).step rfl rfl, (unhide HB).congr (fun k => by rcases k with _ | k <;> simp [ERr3])⟩
    refine StepsR.cons 7 rfl ?_ ?_
    · intro L us W hi hdep hR Kx hNx
      have hF := hide hR.1
      have hB := hR.2
      clear hR
      have d5 : L 5 = true := hdep 5 (by kernel_rfl)
      clear hdep
      have e15 : us 15 = .int .i64 (by14 : Int) := (unhide hF).get (k := 5) rfl d5
      have HB := hide hB
      clear hB
      simp only [fillA, Act.put, List.setIfInBounds_toArray, List.set_cons_zero, List.set_cons_succ] at hNx ⊢
      simp only [e15] at hNx ⊢
      clear e15
      rw [if_pos (by rfl)]
      go_simp
      first | refine hNx _ _ ?_ | skip
      exact ⟨(unhide hF).step rfl rfl, (unhide HB).congr (fun k => by rcases k with _ | k <;> simp [ERr3])⟩
    refine StepsR.cons 8 rfl ?_ ?_
    · intro L us W hi hdep hR Kx hNx
      have hF := hide hR.1
      have hB := hR.2
      clear hR
      clear hdep
      have HB := hide hB
      clear hB
      simp only [fillA, Act.put, List.setIfInBounds_toArray, List.set_cons_zero, List.set_cons_succ] at hNx ⊢
      rw [if_pos (by rfl)]
      go_simp
      first | refine hNx _ _ ?_ | skip
      exact ⟨(unhide hF).step rfl rfl, (unhide HB).congr (fun k => by rcases k with _ | k <;> simp [ERr3])⟩
    refine StepsR.cons 9 rfl ?_ ?_
    · intro L us W hi hdep hR Kx hNx
      have hF := hide hR.1
      have hB := hR.2
      clear hR
      have d7 : L 7 = true := hdep 7 (by kernel_rfl)
      clear hdep
      have e17 : us 17 = .slice (some ⟨b, o, none⟩) 16 cap := (unhide hF).get (k := 7) rfl d7
      have HB := hide hB
      clear hB
      simp only [fillA, Act.put, List.setIfInBounds_toArray, List.set_cons_zero, List.set_cons_succ] at hNx ⊢
      simp only [e17] at hNx ⊢
      clear e17
      rw [if_pos (by rfl)]
      go_simp
      first | refine hNx _ _ ?_ | skip
      exact ⟨(unhide hF).step rfl rfl, (unhide HB).congr (fun k => by rcases k with _ | k <;> simp [ERr3])⟩
    refine StepsR.cons 10 rfl ?_ ?_
    · intro L us W hi hdep hR Kx hNx
      have hF := hide hR.1
      have hB := hR.2
      clear hR
      have d8 : L 8 = true := hdep 8 (by kernel_rfl)
      clear hdep
      have e18 : us 18 = .pointer (some ⟨b, o + 15, none⟩) := (unhide hF).get (k := 8) rfl d8
      have HB := hide hB
      clear hB
      simp only [fillA, Act.put, List.setIfInBounds_toArray, List.set_cons_zero, List.set_cons_succ] at hNx ⊢
      simp only [e18] at hNx ⊢
      clear e18
      rw [if_pos (by rfl)]
      have hcx := ((unhide HB).below.cell (lt_of_cell h15)).trans h15
      go_simp
      first | refine hNx _ _ ?_ | skip
      exact ⟨(unhide hF).step rfl rfl, (unhide HB).congr (fun k => by rcases k with _ | k <;> simp [ERr3])⟩
    refine StepsR.cons 11 rfl ?_ ?_
    · intro L us W hi hdep hR Kx hNx
      have hF := hide hR.1
      have hB := hR.2
      clear hR
      have d9 : L 9 = true := hdep 9 (by kernel_rfl)
      clear hdep
      have e19 : us 19 = .int .u8 (by15 : Int) := (unhide hF).get (k := 9) rfl d9
      have HB := hide hB
      clear hB
      simp only [fillA, Act.put, List.setIfInBounds_toArray, List.set_cons_zero, List.set_cons_succ] at hNx ⊢
      simp only [e19] at hNx ⊢
      clear e19
      rw [if_pos (by rfl)]
      go_simp
      first | refine hNx _ _ ?_ | skip
      exact ⟨(unhide hF).step rfl rfl, (unhide HB).congr (fun k => by rcases k with _ | k <;> simp [ERr3])⟩
    refine StepsR.cons 12 rfl ?_ ?_
    · intro L us W hi hdep hR Kx hNx
      have hF := hide hR.1
      have hB := hR.2
      clear hR
      have d6 : L 6 = true := hdep 6 (by kernel_rfl)
      have d10 : L 10 = true := hdep 10 (by kernel_rfl)
      clear hdep
      have e16 : us 16 = .int .i64 ((by14 : Int) * 256) := (unhide hF).get (k := 6) rfl d6
      have e20 : us 20 = .int .i64 (by15 : Int) := (unhide hF).get (k := 10) rfl d10
      have HB := hide hB
      clear hB
      simp only [fillA, Act.put, List.setIfInBounds_toArray, List.set_cons_zero, List.set_cons_succ] at hNx ⊢
      simp only [e16, e20] at hNx ⊢
      clear e16 e20
      rw [if_pos (by rfl)]
      go_simp
      first | refine hNx _ _ ?_ | skip
      exact ⟨(unhide hF).step rfl rfl, (unhide HB).congr (fun k => by rcases k with _ | k <;> simp [ERr3])⟩
    refine StepsR.cons 13 rfl ?_ ?_
    · intro L us W hi hdep hR Kx hNx
      have hF := hide hR.1
      have hB := hR.2
      clear hR
      have d1 : L 1 = true := hdep 1 (by kernel_rfl)
      have d11 : L 11 = true := hdep 11 (by kernel_rfl)
      clear hdep
      have e11 : us 11 = .int .i64 (cc : Int) := (unhide hF).get (k := 1) rfl d1
      have e21 : us 21 = .int .i64 ((by14 : Int) * 256 + (by15 : Int)) := (unhide hF).get (k := 11) rfl d11
      have HB := hide hB
      clear hB
      simp only [fillA, Act.put, List.setIfInBounds_toArray, List.set_cons_zero, List.set_cons_succ] at hNx ⊢
      simp only [e11, e21] at hNx ⊢
      clear e11 e21
      rw [if_pos (by rfl)]
      go_simp
      first | refine hNx _ _ ?_ | skip
      exact ⟨(unhide hF).step rfl rfl, (unhide HB).congr (fun k => by rcases k with _ | k <;> simp [ERr3])⟩
    exact StepsR.nil
  · intro L us W hL hR
    have hF := hide hR.1
    have hB := hR.2
    clear hR
    have hE0 : ERr3 b o cap by14 by15 cc D w L us 0 = some (w.heap.size, [.int .i64 0, .int .i64 0, .int .i64 0, .int .i64 0, .int .i64 0, .int .i64 0]) := by simp [ERr3]
    have hO0 := hB.ownV hE0
    clear hE0
    have HA : Hid (Bk w W (XRr3 b o cap by14 by15 cc D w)) := hide (hB.congr (fun k => by rcases k with _ | k <;> simp [ERr3, XRr3]))
    have f0 : us 10 = .slice (some ⟨b, o, none⟩) 16 cap := (unhide hF).get (k := 0) rfl (hL 0 (by decide))
    have f1 : us 11 = .int .i64 (cc : Int) := (unhide hF).get (k := 1) rfl (hL 1 (by decide))
    have f2 : us 12 = .slice (some ⟨b, o, none⟩) 16 cap := (unhide hF).get (k := 2) rfl (hL 2 (by decide))
    have f3 : us 13 = .pointer (some ⟨b, o + 14, none⟩) := (unhide hF).get (k := 3) rfl (hL 3 (by decide))
    have f4 : us 14 = .int .u8 (by14 : Int) := (unhide hF).get (k := 4) rfl (hL 4 (by decide))
    have f5 : us 15 = .int .i64 (by14 : Int) := (unhide hF).get (k := 5) rfl (hL 5 (by decide))
    have f6 : us 16 = .int .i64 ((by14 : Int) * 256) := (unhide hF).get (k := 6) rfl (hL 6 (by decide))
    have f7 : us 17 = .slice (some ⟨b, o, none⟩) 16 cap := (unhide hF).get (k := 7) rfl (hL 7 (by decide))
    have f8 : us 18 = .pointer (some ⟨b, o + 15, none⟩) := (unhide hF).get (k := 8) rfl (hL 8 (by decide))
    have f9 : us 19 = .int .u8 (by15 : Int) := (unhide hF).get (k := 9) rfl (hL 9 (by decide))
    have f10 : us 20 = .int .i64 (by15 : Int) := (unhide hF).get (k := 10) rfl (hL 10 (by decide))
    have f11 : us 21 = .int .i64 ((by14 : Int) * 256 + (by15 : Int)) := (unhide hF).get (k := 11) rfl (hL 11 (by decide))
    have f12 : us 22 = .bool D := (unhide hF).get (k := 12) rfl (hL 12 (by decide))
    have HW := hide hB.below
    clear hB hL
    simp only [fillA, Act.put, List.setIfInBounds_toArray, List.set_cons_zero, List.set_cons_succ]
    simp only [f0, f1, f2, f3, f4, f5, f6, f7, f8, f9, f10, f11, f12]
    clear hF f0 f1 f2 f3 f4 f5 f6 f7 f8 f9 f10 f11 f12
    clear us L
    clear HBK hO0 hD hws hwt hw14 hw15 PC h14 h15 hcl
    cases D
    case true =>
      have HN := hide (unhide Hchk (of_decide_eq_false (unhide HD)))
      clear Hchk Hok Hbad P5 P8 PK HV HRB HD
      have hq := (unhide HA).ownV (k := 0) rfl
      have d0 := hq.cell (i := 0) rfl
      have df0 := hq.frozen 0
      have d1 := hq.cell (i := 1) rfl
      have df1 := hq.frozen 1
      have d2 := hq.cell (i := 2) rfl
      have df2 := hq.frozen 2
      have d3 := hq.cell (i := 3) rfl
      have df3 := hq.frozen 3
      have d4 := hq.cell (i := 4) rfl
      have df4 := hq.frozen 4
      have d5 := hq.cell (i := 5) rfl
      have df5 := hq.frozen 5
      clear hq
      replace HW := hide (((((((unhide HW).setCell (p := ⟨w.heap.size, 0, none⟩) (Nat.le_refl _) (.int .i64 0)).setCell (p := ⟨w.heap.size, 1, none⟩) (Nat.le_refl _) (.int .i64 0)).setCell (p := ⟨w.heap.size, 2, none⟩) (Nat.le_refl _) (.int .i64 0)).setCell (p := ⟨w.heap.size, 3, none⟩) (Nat.le_refl _) (.int .i64 0)).setCell (p := ⟨w.heap.size, 4, none⟩) (Nat.le_refl _) (.int .i64 0)).setCell (p := ⟨w.heap.size, 5, none⟩) (Nat.le_refl _) (.int .i64 0))
      go_wp2
      refine bodyPost_ret (v := .tuple #[vReport 0 0 0 0 0 0, .int .i64 2]) (by simp [results, Try.results33, go_sem, vReport, d0, d1, d2, d3, d4, d5]) rfl ⟨by rw [readV_not (unhide HN) (by omega), unhide HN], unhide HW⟩
    have HCH := hide (of_decide_eq_true (unhide HD))
    clear Hchk HD
    have g1 := ((unhide HW).cell (lt_of_cell h1)).trans h1
    have g2 := ((unhide HW).cell (lt_of_cell h2)).trans h2
    have g3 := ((unhide HW).cell (lt_of_cell h3)).trans h3
    have g4 := ((unhide HW).cell (lt_of_cell h4)).trans h4
    go_wp2
    go_quiet (fail)
    clear g1 g2 g3 g4 hE1
    have hbd := below_drewN (Below.refl W.heap.size W) nq
    replace HA := hide ((unhide HA).step hbd)
    generalize W.drewN nq = W2 at *
    clear hbd HW h1 h2 h3 h4
    go_wp2_with fail
    have HB0 : Hid (∀ us, Bk w _ (ERr6 b o cap by0 by11 by12 n1 x3 y3 w (fun _ => false) us)) := hide (fun us => ((unhide HA)).congr (fun k => by rcases k with _ | _ | k <;> simp [ERr6, XRr3]))
    refine wp_region_slots [46, 47, 48, 49, 50, 51, 52, 53, 54, 55, 56, 57, 58, 59, 60, 61, 62, 63, 5] (RRr6 b o cap by0 by11 by12 n1 x3 y3 w) (by kernel_rfl) (by kernel_rfl) (by decide) (by kernel_rfl) ?_ ?_ ?_
    · intro us
      exact ⟨facts_start us _, fun h => (by cases h), fun h => (by cases h), (unhide HB0 us).drew⟩
    · clear HB0
      refine StepsR.cons 1 rfl ?_ ?_
      · intro L us W hi hdep hR Kx hNx
        have hF := hide hR.1
        have f18 := hide hR.2.1
        have f19 := hide hR.2.2.1
        have hB := hR.2.2.2
        clear hR
        clear hdep
        have HB := hide hB
        clear hB
        simp only [fillA, Act.put, List.setIfInBounds_toArray, List.set_cons_zero, List.set_cons_succ] at hNx ⊢
        rw [if_pos (by rfl)]
        go_simp
        first | refine hNx _ _ ?_ | skip
        exact ⟨(unhide hF).step rfl rfl, keepG (unhide f18) (by decide) (by decide), keepL (unhide f19) (by decide), (unhide HB).congr (fun k => by rcases k with _ | _ | k <;> simp [ERr6])⟩
      refine StepsR.cons 2 rfl ?_ ?_
      · intro L us W hi hdep hR Kx hNx
        have hF := hide hR.1
        have f18 := hide hR.2.1
        have f19 := hide hR.2.2.1
        have hB := hR.2.2.2
        clear hR
        have d0 : L 0 = true := hdep 0 (by kernel_rfl)
        clear hdep
        have e46 : us 46 = .slice (some ⟨b, o, none⟩) 16 cap := (unhide hF).get (k := 0) rfl d0
        have HB := hide hB
        clear hB
        simp only [fillA, Act.put, List.setIfInBounds_toArray, List.set_cons_zero, List.set_cons_succ] at hNx ⊢
        simp only [e46] at hNx ⊢
        clear e46
        rw [if_pos (by rfl)]
        go_simp
        first | refine hNx _ _ ?_ | skip
        exact ⟨(unhide hF).step rfl rfl, keepG (unhide f18) (by decide) (by decide), keepL (unhide f19) (by decide), (unhide HB).congr (fun k => by rcases k with _ | _ | k <;> simp [ERr6])⟩
      refine StepsR.cons 3 rfl ?_ ?_
      · intro L us W hi hdep hR Kx hNx
        have hF := hide hR.1
        have f18 := hide hR.2.1
        have f19 := hide hR.2.2.1
        have hB := hR.2.2.2
        clear hR
        have d1 : L 1 = true := hdep 1 (by kernel_rfl)
        clear hdep
        have e47 : us 47 = .pointer (some ⟨b, o + 0, none⟩) := (unhide hF).get (k := 1) rfl d1
        have HB := hide hB
        clear hB
        simp only [fillA, Act.put, List.setIfInBounds_toArray, List.set_cons_zero, List.set_cons_succ] at hNx ⊢
        simp only [e47] at hNx ⊢
        clear e47
        rw [if_pos (by rfl)]
        have hcx := ((unhide HB).below.cell (lt_of_cell h0)).trans h0
        go_simp
        first | refine hNx _ _ ?_ | skip
        exact ⟨(unhide hF).step rfl rfl, keepG (unhide f18) (by decide) (by decide), keepL (unhide f19) (by decide), (unhide HB).congr (fun k => by rcases k with _ | _ | k <;> simp [ERr6])⟩
      refine StepsR.cons 4 rfl ?_ ?_
      · intro L us W hi hdep hR Kx hNx
        have hF := hide hR.1
        have f18 := hide hR.2.1
        have f19 := hide hR.2.2.1
        have hB := hR.2.2.2
        clear hR
        have d2 : L 2 = true := hdep 2 (by kernel_rfl)
        clear hdep
        have e48 : us 48 = .int .u8 (by0 : Int) := (unhide hF).get (k := 2) rfl d2
        have HB := hide hB
        clear hB
        simp only [fillA, Act.put, List.setIfInBounds_toArray, List.set_cons_zero, List.set_cons_succ] at hNx ⊢
        simp only [e48] at hNx ⊢
        clear e48
        rw [if_pos (by rfl)]
        go_simp
        first | refine hNx _ _ ?_ | skip
        exact ⟨(unhide hF).step rfl rfl, keepG (unhide f18) (by decide) (by decide), keepL (unhide f19) (by decide), (unhide HB).congr (fun k => by rcases k with _ | _ | k <;> simp [ERr6])⟩
      refine StepsR.cons 5 rfl ?_ ?_
      · intro L us W hi hdep hR Kx hNx
        have hF := hide hR.1
        have f18 := hide hR.2.1
        have f19 := hide hR.2.2.1
        have hB := hR.2.2.2
        clear hR
        clear hdep
        have HB := hide hB
        clear hB
        simp only [fillA, Act.put, List.setIfInBounds_toArray, List.set_cons_zero, List.set_cons_succ] at hNx ⊢
        rw [if_pos (by rfl)]
        go_simp
        first | refine hNx _ _ ?_ | skip
        exact ⟨(unhide hF).step rfl rfl, keepG (unhide f18) (by decide) (by decide), keepL (unhide f19) (by decide), (unhide HB).congr (fun k => by rcases k with _ | _ | k <;> simp [ERr6])⟩
      refine StepsR.cons 6 rfl ?_ ?_
      · intro L us W hi hdep hR Kx hNx
        have hF := hide hR.1
        have f18 := hide hR.2.1
        have f19 := hide hR.2.2.1
        have hB := hR.2.2.2
        clear hR
        clear hdep
        have HB := hide hB
        clear hB
        simp only [fillA, Act.put, List.setIfInBounds_toArray, List.set_cons_zero, List.set_cons_succ] at hNx ⊢
        rw [if_pos (by rfl)]
        go_simp
        first | refine hNx _ _ ?_ | skip
        exact ⟨(unhide hF).step rfl rfl, keepG (unhide f18) (by decide) (by decide), keepL (unhide f19) (by decide), (unhide HB).congr (fun k => by rcases k with _ | _ | k <;> simp [ERr6])⟩
      refine StepsR.cons 7 rfl ?_ ?_
      · intro L us W hi hdep hR Kx hNx
        have hF := hide hR.1
        have f18 := hide hR.2.1
        have f19 := hide hR.2.2.1
        have hB := hR.2.2.2
        clear hR
        have d5 : L 5 = true := hdep 5 (by kernel_rfl)
        clear hdep
        have e51 : us 51 = .slice (some ⟨b, o, none⟩) 16 cap := (unhide hF).get (k := 5) rfl d5
        have HB := hide hB
        clear hB
        simp only [fillA, Act.put, List.setIfInBounds_toArray, List.set_cons_zero, List.set_cons_succ] at hNx ⊢
        simp only [e51] at hNx ⊢
        clear e51
        rw [if_pos (by rfl)]
        have HC := hide (unhide P5 W (unhide HB).below)
        go_simp
        refine (unhide HC).mono ?_
        rintro e W' ⟨rfl, hb⟩
        replace HB := hide ((unhide HB).step hb)
        clear hb HC
        go_wp2_with fail
        first | refine hNx _ _ ?_ | skip
        exact ⟨(unhide hF).step rfl rfl, keepG (unhide f18) (by decide) (by decide), keepL (unhide f19) (by decide), (unhide HB).congr (fun k => by rcases k with _ | _ | k <;> simp [ERr6])⟩
      refine StepsR.cons 8 rfl ?_ ?_
      · intro L us W hi hdep hR Kx hNx
        have hF := hide hR.1
        have f18 := hide hR.2.1
        have f19 := hide hR.2.2.1
        have hB := hR.2.2.2
        clear hR
        clear hdep
        have HB := hide hB
        clear hB
        simp only [fillA, Act.put, List.setIfInBounds_toArray, List.set_cons_zero, List.set_cons_succ] at hNx ⊢
        rw [if_pos (by rfl)]
        go_simp
        first | refine hNx _ _ ?_ | skip
        exact ⟨(unhide hF).step rfl rfl, keepG (unhide f18) (by decide) (by decide), keepL (unhide f19) (by decide), (unhide HB).congr (fun k => by rcases k with _ | _ | k <;> simp [ERr6])⟩
      refine StepsR.cons 9 rfl ?_ ?_
      · intro L us W hi hdep hR Kx hNx
        have hF := hide hR.1
        have f18 := hide hR.2.1
        have f19 := hide hR.2.2.1
        have hB := hR.2.2.2
        clear hR
        have d7 : L 7 = true := hdep 7 (by kernel_rfl)
        clear hdep
        have e53 : us 53 = .slice (some ⟨b, o, none⟩) 16 cap := (unhide hF).get (k := 7) rfl d7
        have HB := hide hB
        clear hB
        simp only [fillA, Act.put, List.setIfInBounds_toArray, List.set_cons_zero, List.set_cons_succ] at hNx ⊢
        simp only [e53] at hNx ⊢
        clear e53
        rw [if_pos (by rfl)]
        have HC := hide (unhide P8 W (unhide HB).below)
        go_simp
        refine (unhide HC).mono ?_
        rintro e W' ⟨rfl, hb⟩
        replace HB := hide ((unhide HB).step hb)
        clear hb HC
        go_wp2_with fail
        first | refine hNx _ _ ?_ | skip
        exact ⟨(unhide hF).step rfl rfl, keepG (unhide f18) (by decide) (by decide), keepL (unhide f19) (by decide), (unhide HB).congr (fun k => by rcases k with _ | _ | k <;> simp [ERr6])⟩
      refine StepsR.cons 10 rfl ?_ ?_
      · intro L us W hi hdep hR Kx hNx
        have hF := hide hR.1
        have f18 := hide hR.2.1
        have f19 := hide hR.2.2.1
        have hB := hR.2.2.2
        clear hR
        clear hdep
        have HB := hide hB
        clear hB
        simp only [fillA, Act.put, List.setIfInBounds_toArray, List.set_cons_zero, List.set_cons_succ] at hNx ⊢
        rw [if_pos (by rfl)]
        go_simp
        first | refine hNx _ _ ?_ | skip
        exact ⟨(unhide hF).step rfl rfl, keepG (unhide f18) (by decide) (by decide), keepL (unhide f19) (by decide), (unhide HB).congr (fun k => by rcases k with _ | _ | k <;> simp [ERr6])⟩
      refine StepsR.cons 11 rfl ?_ ?_
      · intro L us W hi hdep hR Kx hNx
        have hF := hide hR.1
        have f18 := hide hR.2.1
        have f19 := hide hR.2.2.1
        have hB := hR.2.2.2
        clear hR
        have d9 : L 9 = true := hdep 9 (by kernel_rfl)
        clear hdep
        have e55 : us 55 = .slice (some ⟨b, o, none⟩) 16 cap := (unhide hF).get (k := 9) rfl d9
        have HB := hide hB
        clear hB
        simp only [fillA, Act.put, List.setIfInBounds_toArray, List.set_cons_zero, List.set_cons_succ] at hNx ⊢
        simp only [e55] at hNx ⊢
        clear e55
        rw [if_pos (by rfl)]
        go_simp
        first | refine hNx _ _ ?_ | skip
        exact ⟨(unhide hF).step rfl rfl, keepG (unhide f18) (by decide) (by decide), keepL (unhide f19) (by decide), (unhide HB).congr (fun k => by rcases k with _ | _ | k <;> simp [ERr6])⟩
      refine StepsR.cons 12 rfl ?_ ?_
      · intro L us W hi hdep hR Kx hNx
        have hF := hide hR.1
        have f18 := hide hR.2.1
        have f19 := hide hR.2.2.1
        have hB := hR.2.2.2
        clear hR
        have d10 : L 10 = true := hdep 10 (by kernel_rfl)
        clear hdep
        have e56 : us 56 = .pointer (some ⟨b, o + 11, none⟩) := (unhide hF).get (k := 10) rfl d10
        have HB := hide hB
        clear hB
        simp only [fillA, Act.put, List.setIfInBounds_toArray, List.set_cons_zero, List.set_cons_succ] at hNx ⊢
        simp only [e56] at hNx ⊢
        clear e56
        rw [if_pos (by rfl)]
        have hcx := ((unhide HB).below.cell (lt_of_cell h11)).trans h11
        go_simp
        first | refine hNx _ _ ?_ | skip
        exact ⟨(unhide hF).step rfl rfl, keepG (unhide f18) (by decide) (by decide), keepL (unhide f19) (by decide), (unhide HB).congr (fun k => by rcases k with _ | _ | k <;> simp [ERr6])⟩
      refine StepsR.cons 13 rfl ?_ ?_
      · intro L us W hi hdep hR Kx hNx
        have hF := hide hR.1
        have f18 := hide hR.2.1
        have f19 := hide hR.2.2.1
        have hB := hR.2.2.2
        clear hR
        have d11 : L 11 = true := hdep 11 (by kernel_rfl)
        clear hdep
        have e57 : us 57 = .int .u8 (by11 : Int) := (unhide hF).get (k := 11) rfl d11
        have HB := hide hB
        clear hB
        simp only [fillA, Act.put, List.setIfInBounds_toArray, List.set_cons_zero, List.set_cons_succ] at hNx ⊢
        simp only [e57] at hNx ⊢
        clear e57
        rw [if_pos (by rfl)]
        go_simp
        first | refine hNx _ _ ?_ | skip
        exact ⟨(unhide hF).step rfl rfl, keepG (unhide f18) (by decide) (by decide), keepL (unhide f19) (by decide), (unhide HB).congr (fun k => by rcases k with _ | _ | k <;> simp [ERr6])⟩
      refine StepsR.cons 14 rfl ?_ ?_
      · intro L us W hi hdep hR Kx hNx
        have hF := hide hR.1
        have f18 := hide hR.2.1
        have f19 := hide hR.2.2.1
        have hB := hR.2.2.2
        clear hR
        clear hdep
        have HB := hide hB
        clear hB
        simp only [fillA, Act.put, List.setIfInBounds_toArray, List.set_cons_zero, List.set_cons_succ] at hNx ⊢
        rw [if_pos (by rfl)]
        go_simp
        first | refine hNx _ _ ?_ | skip
        exact ⟨(unhide hF).step rfl rfl, keepG (unhide f18) (by decide) (by decide), keepL (unhide f19) (by decide), (unhide HB).congr (fun k => by rcases k with _ | _ | k <;> simp [ERr6])⟩
      refine StepsR.cons 15 rfl ?_ ?_
      · intro L us W hi hdep hR Kx hNx
        have hF := hide hR.1
        have f18 := hide hR.2.1
        have f19 := hide hR.2.2.1
        have hB := hR.2.2.2
        clear hR
        have d13 : L 13 = true := hdep 13 (by kernel_rfl)
        clear hdep
        have e59 : us 59 = .slice (some ⟨b, o, none⟩) 16 cap := (unhide hF).get (k := 13) rfl d13
        have HB := hide hB
        clear hB
        simp only [fillA, Act.put, List.setIfInBounds_toArray, List.set_cons_zero, List.set_cons_succ] at hNx ⊢
        simp only [e59] at hNx ⊢
        clear e59
        rw [if_pos (by rfl)]
        go_simp
        first | refine hNx _ _ ?_ | skip
        exact ⟨(unhide hF).step rfl rfl, keepG (unhide f18) (by decide) (by decide), keepL (unhide f19) (by decide), (unhide HB).congr (fun k => by rcases k with _ | _ | k <;> simp [ERr6])⟩
      refine StepsR.cons 16 rfl ?_ ?_
      · intro L us W hi hdep hR Kx hNx
        have hF := hide hR.1
        have f18 := hide hR.2.1
        have f19 := hide hR.2.2.1
        have hB := hR.2.2.2
        clear hR
        have d14 : L 14 = true := hdep 14 (by kernel_rfl)
        clear hdep
        have e60 : us 60 = .pointer (some ⟨b, o + 12, none⟩) := (unhide hF).get (k := 14) rfl d14
        have HB := hide hB
        clear hB
        simp only [fillA, Act.put, List.setIfInBounds_toArray, List.set_cons_zero, List.set_cons_succ] at hNx ⊢
        simp only [e60] at hNx ⊢
        clear e60
        rw [if_pos (by rfl)]
        have hcx := ((unhide HB).below.cell (lt_of_cell h12)).trans h12
        go_simp
        first | refine hNx _ _ ?_ | skip
        exact ⟨(unhide hF).step rfl rfl, keepG (unhide f18) (by decide) (by decide), keepL (unhide f19) (by decide), (unhide HB).congr (fun k => by rcases k with _ | _ | k <;> simp [ERr6])⟩
      refine StepsR.cons 17 rfl ?_ ?_
      · intro L us W hi hdep hR Kx hNx
        have hF := hide hR.1
        have f18 := hide hR.2.1
        have f19 := hide hR.2.2.1
        have hB := hR.2.2.2
        clear hR
        have d15 : L 15 = true := hdep 15 (by kernel_rfl)
        clear hdep
        have e61 : us 61 = .int .u8 (by12 : Int) := (unhide hF).get (k := 15) rfl d15
        have HB := hide hB
        clear hB
        simp only [fillA, Act.put, List.setIfInBounds_toArray, List.set_cons_zero, List.set_cons_succ] at hNx ⊢
        simp only [e61] at hNx ⊢
        clear e61
        rw [if_pos (by rfl)]
        go_simp
        first | refine hNx _ _ ?_ | skip
        exact ⟨(unhide hF).step rfl rfl, keepG (unhide f18) (by decide) (by decide), keepL (unhide f19) (by decide), (unhide HB).congr (fun k => by rcases k with _ | _ | k <;> simp [ERr6])⟩
      refine StepsR.cons 18 rfl ?_ ?_
      · intro L us W hi hdep hR Kx hNx
        have hF := hide hR.1
        have f18 := hide hR.2.1
        have f19 := hide hR.2.2.1
        have hB := hR.2.2.2
        clear hR
        have d3 : L 3 = true := hdep 3 (by kernel_rfl)
        have d4 : L 4 = true := hdep 4 (by kernel_rfl)
        have d6 : L 6 = true := hdep 6 (by kernel_rfl)
        have d8 : L 8 = true := hdep 8 (by kernel_rfl)
        have d12 : L 12 = true := hdep 12 (by kernel_rfl)
        have d16 : L 16 = true := hdep 16 (by kernel_rfl)
        clear hdep
        have e49 : us 49 = .int .i64 (by0 : Int) := (unhide hF).get (k := 3) rfl d3
        have e50 : us 50 = .int .i64 (n1 : Int) := (unhide hF).get (k := 4) rfl d4
        have e52 : us 52 = .int .i64 x3 := (unhide hF).get (k := 6) rfl d6
        have e54 : us 54 = .int .i64 y3 := (unhide hF).get (k := 8) rfl d8
        have e58 : us 58 = .int .i64 (by11 : Int) := (unhide hF).get (k := 12) rfl d12
        have e62 : us 62 = .int .i64 (by12 : Int) := (unhide hF).get (k := 16) rfl d16
        have HB := hide hB
        clear hB
        simp only [fillA, Act.put, List.setIfInBounds_toArray, List.set_cons_zero, List.set_cons_succ] at hNx ⊢
        simp only [e49, e50, e52, e54, e58, e62] at hNx ⊢
        clear e49 e50 e52 e54 e58 e62
        rw [if_pos (by rfl)]
        go_simp
        first | refine hNx _ _ ?_ | skip
        exact ⟨(unhide hF).step rfl rfl, keepG (unhide f18) (by decide) (by decide), keepL (unhide f19) (by decide), (unhide HB).congr (fun k => by rcases k with _ | _ | k <;> simp [ERr6])⟩
      refine StepsR.cons 19 rfl ?_ ?_
      · intro L us W hi hdep hR Kx hNx
        have hF := hide hR.1
        have f18 := hide hR.2.1
        have f19 := hide hR.2.2.1
        have hB := hR.2.2.2
        clear hR
        clear hdep
        have HB := hide hB
        clear hB
        simp only [fillA, Act.put, List.setIfInBounds_toArray, List.set_cons_zero, List.set_cons_succ] at hNx ⊢
        rw [if_pos (by rfl)]
        have A1 := hide ((unhide HB).made 1 #[.int .i64 0, .int .i64 0, .int .i64 0, .int .i64 0, .int .i64 0, .int .i64 0] 25)
        go_simp
        first | refine hNx _ _ ?_ | skip
        have nst : L 19 = false := notL (unhide f19) hi
        exact ⟨(unhide hF).stepO rfl, newG, keepL (unhide f19) (by decide), (unhide A1).congr (fun k => by rcases k with _ | _ | k <;> simp [ERr6, *])⟩
      refine StepsR.cons 20 rfl ?_ ?_
      · intro L us W hi hdep hR Kx hNx
        have hF := hide hR.1
        have f18 := hide hR.2.1
        have f19 := hide hR.2.2.1
        have hB := hR.2.2.2
        clear hR
        have d17 : L 17 = true := hdep 17 (by kernel_rfl)
        have d18 : L 18 = true := hdep 18 (by kernel_rfl)
        clear hdep
        have hE : ERr6 b o cap by0 by11 by12 n1 x3 y3 w L us 1 = some ((gOf (us 5)), [.int .i64 0, .int .i64 0, .int .i64 0, .int .i64 0, .int .i64 0, .int .i64 0]) := by simp [ERr6, *]
        have e63 : us 63 = .agg #[.int .i64 (by0 : Int), .int .i64 (n1 : Int), .int .i64 x3, .int .i64 y3, .int .i64 (by11 : Int), .int .i64 (by12 : Int)] := (unhide hF).get (k := 17) rfl d17
        have e5 := unhide f18 d18
        have hO := hB.ownV hE
        have c0 := hO.cell (i := 0) rfl
        have c1 := hO.cell (i := 1) rfl
        have c2 := hO.cell (i := 2) rfl
        have c3 := hO.cell (i := 3) rfl
        have c4 := hO.cell (i := 4) rfl
        have c5 := hO.cell (i := 5) rfl
        have z0 := hO.frozen 0
        have z1 := hO.frozen 1
        have z2 := hO.frozen 2
        have z3 := hO.frozen 3
        have z4 := hO.frozen 4
        have z5 := hO.frozen 5
        clear hO
        have HB := hide hB
        clear hB
        have HE := hide hE
        clear hE
        simp only [fillA, Act.put, List.setIfInBounds_toArray, List.set_cons_zero, List.set_cons_succ] at hNx ⊢
        simp only [e63] at hNx ⊢
        rw [e5] at hNx ⊢
        clear e63 e5
        rw [if_pos (by rfl)]
        have A1 := hide (((((((unhide HB).set (k := 1) (g := (gOf (us 5))) (vs := [.int .i64 0, .int .i64 0, .int .i64 0, .int .i64 0, .int .i64 0, .int .i64 0]) (unhide HE) 0 (.int .i64 (by0 : Int)) (by simp)).set (k := 1) (g := (gOf (us 5))) (vs := [.int .i64 (by0 : Int), .int .i64 0, .int .i64 0, .int .i64 0, .int .i64 0, .int .i64 0]) (by simp) 1 (.int .i64 (n1 : Int)) (by simp)).set (k := 1) (g := (gOf (us 5))) (vs := [.int .i64 (by0 : Int), .int .i64 (n1 : Int), .int .i64 0, .int .i64 0, .int .i64 0, .int .i64 0]) (by simp) 2 (.int .i64 x3) (by simp)).set (k := 1) (g := (gOf (us 5))) (vs := [.int .i64 (by0 : Int), .int .i64 (n1 : Int), .int .i64 x3, .int .i64 0, .int .i64 0, .int .i64 0]) (by simp) 3 (.int .i64 y3) (by simp)).set (k := 1) (g := (gOf (us 5))) (vs := [.int .i64 (by0 : Int), .int .i64 (n1 : Int), .int .i64 x3, .int .i64 y3, .int .i64 0, .int .i64 0]) (by simp) 4 (.int .i64 (by11 : Int)) (by simp)).set (k := 1) (g := (gOf (us 5))) (vs := [.int .i64 (by0 : Int), .int .i64 (n1 : Int), .int .i64 x3, .int .i64 y3, .int .i64 (by11 : Int), .int .i64 0]) (by simp) 5 (.int .i64 (by12 : Int)) (by simp))
        go_simp
        first | refine hNx undef _ ?_ | skip
        exact ⟨(unhide hF).stepN rfl, keepGN (unhide f18) (by decide), newL d18 (by decide), (unhide A1).congr (fun k => by rcases k with _ | _ | k <;> simp [ERr6, *])⟩
      exact StepsR.nil
    · intro L us W hL hR
      have hF := hide hR.1
      have f18 := hide hR.2.1
      have f19 := hide hR.2.2.1
      have hB := hR.2.2.2
      clear hR
      have l18 := hL 18 (by decide)
      have l19 := hL 19 (by decide)
      have hE0 : ERr6 b o cap by0 by11 by12 n1 x3 y3 w L us 0 = some (w.heap.size, [.int .i64 0, .int .i64 0, .int .i64 0, .int .i64 0, .int .i64 0, .int .i64 0]) := by simp [ERr6]
      have hO0 := hB.ownV hE0
      have hE1 : ERr6 b o cap by0 by11 by12 n1 x3 y3 w L us 1 = some ((gOf (us 5)), [.int .i64 (by0 : Int), .int .i64 (n1 : Int), .int .i64 x3, .int .i64 y3, .int .i64 (by11 : Int), .int .i64 (by12 : Int)]) := by simp [ERr6, *]
      have hO1 := hB.ownV hE1
      have hg1 := (hB.own 1 _ _ hE1).1
      have ha1_0 := hB.apart 1 0 _ _ _ _ hE1 hE0 (by decide)
      clear hE0 hE1
      have HA : Hid (Bk w W (XRr6 b o cap by0 by11 by12 n1 x3 y3 w (gOf (us 5)))) := hide (hB.congr (fun k => by rcases k with _ | _ | k <;> simp [ERr6, XRr6, *]))
      have f0 : us 46 = .slice (some ⟨b, o, none⟩) 16 cap := (unhide hF).get (k := 0) rfl (hL 0 (by decide))
      have f1 : us 47 = .pointer (some ⟨b, o + 0, none⟩) := (unhide hF).get (k := 1) rfl (hL 1 (by decide))
      have f2 : us 48 = .int .u8 (by0 : Int) := (unhide hF).get (k := 2) rfl (hL 2 (by decide))
      have f3 : us 49 = .int .i64 (by0 : Int) := (unhide hF).get (k := 3) rfl (hL 3 (by decide))
      have f4 : us 50 = .int .i64 (n1 : Int) := (unhide hF).get (k := 4) rfl (hL 4 (by decide))
      have f5 : us 51 = .slice (some ⟨b, o, none⟩) 16 cap := (unhide hF).get (k := 5) rfl (hL 5 (by decide))
      have f6 : us 52 = .int .i64 x3 := (unhide hF).get (k := 6) rfl (hL 6 (by decide))
      have f7 : us 53 = .slice (some ⟨b, o, none⟩) 16 cap := (unhide hF).get (k := 7) rfl (hL 7 (by decide))
      have f8 : us 54 = .int .i64 y3 := (unhide hF).get (k := 8) rfl (hL 8 (by decide))
      have f9 : us 55 = .slice (some ⟨b, o, none⟩) 16 cap := (unhide hF).get (k := 9) rfl (hL 9 (by decide))
      have f10 : us 56 = .pointer (some ⟨b, o + 11, none⟩) := (unhide hF).get (k := 10) rfl (hL 10 (by decide))
      have f11 : us 57 = .int .u8 (by11 : Int) := (unhide hF).get (k := 11) rfl (hL 11 (by decide))
      have f12 : us 58 = .int .i64 (by11 : Int) := (unhide hF).get (k := 12) rfl (hL 12 (by decide))
      have f13 : us 59 = .slice (some ⟨b, o, none⟩) 16 cap := (unhide hF).get (k := 13) rfl (hL 13 (by decide))
      have f14 : us 60 = .pointer (some ⟨b, o + 12, none⟩) := (unhide hF).get (k := 14) rfl (hL 14 (by decide))
      have f15 : us 61 = .int .u8 (by12 : Int) := (unhide hF).get (k := 15) rfl (hL 15 (by decide))
      have f16 : us 62 = .int .i64 (by12 : Int) := (unhide hF).get (k := 16) rfl (hL 16 (by decide))
      have f17 : us 63 = .agg #[.int .i64 (by0 : Int), .int .i64 (n1 : Int), .int .i64 x3, .int .i64 y3, .int .i64 (by11 : Int), .int .i64 (by12 : Int)] := (unhide hF).get (k := 17) rfl (hL 17 (by decide))
      replace f18 := unhide f18 (hL 18 (by decide))
      have HW := hide hB.below
      clear hB hL l18 l19
      simp only [fillA, Act.put, List.setIfInBounds_toArray, List.set_cons_zero, List.set_cons_succ]
      simp only [f0, f1, f2, f3, f4, f5, f6, f7, f8, f9, f10, f11, f12, f13, f14, f15, f16, f17]
      rw [f18]
      clear hF f0 f1 f2 f3 f4 f5 f6 f7 f8 f9 f10 f11 f12 f13 f14 f15 f16 f17 f18 f19
      generalize gOf (us 5) = g5 at *
      clear us L
      clear hO0 hO1 hg1 ha1_0 h0 h11 h12 hw0 hw11 hw12 P5 P8
      have g13 := ((unhide HW).cell (lt_of_cell h13)).trans h13
      clear h13
      by_cases hz : by13 = 0
      case neg =>
        have HN := hide (unhide Hbad (Or.inl hz) (unhide HCH))
        have hzn : ((by13 : Int) != 0) = true := by rw [bne_iff_ne]; omega
        clear Hbad Hok HV HRB PK hz HCH
        have hq := (unhide HA).ownV (k := 0) rfl
        have d0 := hq.cell (i := 0) rfl
        have df0 := hq.frozen 0
        have d1 := hq.cell (i := 1) rfl
        have df1 := hq.frozen 1
        have d2 := hq.cell (i := 2) rfl
        have df2 := hq.frozen 2
        have d3 := hq.cell (i := 3) rfl
        have df3 := hq.frozen 3
        have d4 := hq.cell (i := 4) rfl
        have df4 := hq.frozen 4
        have d5 := hq.cell (i := 5) rfl
        have df5 := hq.frozen 5
        clear hq
        replace HW := hide (((((((unhide HW).setCell (p := ⟨w.heap.size, 0, none⟩) (Nat.le_refl _) (.int .i64 0)).setCell (p := ⟨w.heap.size, 1, none⟩) (Nat.le_refl _) (.int .i64 0)).setCell (p := ⟨w.heap.size, 2, none⟩) (Nat.le_refl _) (.int .i64 0)).setCell (p := ⟨w.heap.size, 3, none⟩) (Nat.le_refl _) (.int .i64 0)).setCell (p := ⟨w.heap.size, 4, none⟩) (Nat.le_refl _) (.int .i64 0)).setCell (p := ⟨w.heap.size, 5, none⟩) (Nat.le_refl _) (.int .i64 0))
        go_wp2
        refine bodyPost_ret (v := .tuple #[vReport 0 0 0 0 0 0, .int .i64 3]) (by simp [results, Try.results33, go_sem, vReport, d0, d1, d2, d3, d4, d5]) rfl ⟨by rw [readV_not (unhide HN) (by omega), unhide HN], unhide HW⟩
      subst hz
      have h00 : (((0 : Nat) : Int) != 0) = false := rfl
      have hq := (unhide HA).ownV (k := 1) rfl
      have e0 := hq.cell (i := 0) rfl
      have e1 := hq.cell (i := 1) rfl
      have e2 := hq.cell (i := 2) rfl
      have e3 := hq.cell (i := 3) rfl
      have e4 := hq.cell (i := 4) rfl
      have e5 := hq.cell (i := 5) rfl
      clear hq
      go_wp2_with fail
      refine (unhide PK _).mono ?_
      rintro e w3 ⟨rfl, hb⟩
      replace HA := hide ((unhide HA).step hb)
      replace HW := hide (unhide HA).below
      clear hb PK g13 e0 e1 e2 e3 e4 e5 h00
      cases hr : repB by0 n1 x3 y3 by11 by12
      · rw [hr] at HRB
        have HN := hide (unhide Hbad (Or.inr (unhide HRB)) (unhide HCH))
        clear Hbad Hok HV HRB HCH hr
        have hq := (unhide HA).ownV (k := 0) rfl
        have d0 := hq.cell (i := 0) rfl
        have df0 := hq.frozen 0
        have d1 := hq.cell (i := 1) rfl
        have df1 := hq.frozen 1
        have d2 := hq.cell (i := 2) rfl
        have df2 := hq.frozen 2
        have d3 := hq.cell (i := 3) rfl
        have df3 := hq.frozen 3
        have d4 := hq.cell (i := 4) rfl
        have df4 := hq.frozen 4
        have d5 := hq.cell (i := 5) rfl
        have df5 := hq.frozen 5
        clear hq
        replace HW := hide (((((((unhide HW).setCell (p := ⟨w.heap.size, 0, none⟩) (Nat.le_refl _) (.int .i64 0)).setCell (p := ⟨w.heap.size, 1, none⟩) (Nat.le_refl _) (.int .i64 0)).setCell (p := ⟨w.heap.size, 2, none⟩) (Nat.le_refl _) (.int .i64 0)).setCell (p := ⟨w.heap.size, 3, none⟩) (Nat.le_refl _) (.int .i64 0)).setCell (p := ⟨w.heap.size, 4, none⟩) (Nat.le_refl _) (.int .i64 0)).setCell (p := ⟨w.heap.size, 5, none⟩) (Nat.le_refl _) (.int .i64 0))
        go_wp2
        refine bodyPost_ret (v := .tuple #[vReport 0 0 0 0 0 0, .int .i64 3]) (by simp [results, Try.results33, go_sem, vReport, d0, d1, d2, d3, d4, d5]) rfl ⟨by rw [readV_not (unhide HN) (by omega), unhide HN], unhide HW⟩
      rw [hr] at HRB
      have HN := hide (unhide Hok (by simp) (unhide HRB) (unhide HCH))
      clear Hbad Hok HRB HCH hr
      have hq := (unhide HA).ownV (k := 1) rfl
      have e0 := hq.cell (i := 0) rfl
      have e1 := hq.cell (i := 1) rfl
      have e2 := hq.cell (i := 2) rfl
      have e3 := hq.cell (i := 3) rfl
      have e4 := hq.cell (i := 4) rfl
      have e5 := hq.cell (i := 5) rfl
      clear hq
      have hq := (unhide HA).ownV (k := 0) rfl
      have d0 := hq.cell (i := 0) rfl
      have df0 := hq.frozen 0
      have d1 := hq.cell (i := 1) rfl
      have df1 := hq.frozen 1
      have d2 := hq.cell (i := 2) rfl
      have df2 := hq.frozen 2
      have d3 := hq.cell (i := 3) rfl
      have df3 := hq.frozen 3
      have d4 := hq.cell (i := 4) rfl
      have df4 := hq.frozen 4
      have d5 := hq.cell (i := 5) rfl
      have df5 := hq.frozen 5
      clear hq
      replace HW := hide (((((((unhide HW).setCell (p := ⟨w.heap.size, 0, none⟩) (Nat.le_refl _) (.int .i64 (by0 : Int))).setCell (p := ⟨w.heap.size, 1, none⟩) (Nat.le_refl _) (.int .i64 (n1 : Int))).setCell (p := ⟨w.heap.size, 2, none⟩) (Nat.le_refl _) (.int .i64 x3)).setCell (p := ⟨w.heap.size, 3, none⟩) (Nat.le_refl _) (.int .i64 y3)).setCell (p := ⟨w.heap.size, 4, none⟩) (Nat.le_refl _) (.int .i64 (by11 : Int))).setCell (p := ⟨w.heap.size, 5, none⟩) (Nat.le_refl _) (.int .i64 (by12 : Int)))
      go_wp2
      refine bodyPost_ret (v := .tuple #[vReport by0 n1 x3 y3 by11 by12, .int .i64 0]) (by simp [results, Try.results33, go_sem, vReport, d0, d1, d2, d3, d4, d5]) rfl ⟨by rw [readV_ok (unhide HN), unhide HN, unhide HV], unhide HW⟩

end Go.Proofs.Ytkjikjeecjendaa

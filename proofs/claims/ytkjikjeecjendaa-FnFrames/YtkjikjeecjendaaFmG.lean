/- Frames: the program's PackReport. Written by wip/mkfm2.py. -/
import Derived.Test.YtkjikjeecjendaaFmF
namespace Go.Proofs.Ytkjikjeecjendaa
open Go.RowKit

def stage0 : List Byte := zero16
def stage1 (k : Int) : List Byte := putB stage0 1 k 1
theorem stage1_len (k : Int) : (stage1 k).length = 16 := by unfold stage1; rw [putB_len]; rfl
def stage2 (k i : Int) : List Byte := putB (stage1 k) 5 i 4
theorem stage2_len (k i : Int) : (stage2 k i).length = 16 := by unfold stage2; rw [putB_len]; exact stage1_len k
def stage3 (k i x : Int) : List Byte := putB (stage2 k i) 8 x 3
theorem stage3_len (k i x : Int) : (stage3 k i x).length = 16 := by unfold stage3; rw [putB_len]; exact stage2_len k i
def stage4 (k i x y : Int) : List Byte := putB (stage3 k i x) 11 y 3
theorem stage4_len (k i x y : Int) : (stage4 k i x y).length = 16 := by unfold stage4; rw [putB_len]; exact stage3_len k i x
def stage5 (k i x y s : Int) : List Byte := putB (stage4 k i x y) 12 s 1
theorem stage5_len (k i x y s : Int) : (stage5 k i x y s).length = 16 := by unfold stage5; rw [putB_len]; exact stage4_len k i x y
def stage6 (k i x y s n : Int) : List Byte := putB (stage5 k i x y s) 13 n 1
theorem stage6_len (k i x y s n : Int) : (stage6 k i x y s n).length = 16 := by unfold stage6; rw [putB_len]; exact stage5_len k i x y s
theorem stage6_eq (k i x y s n : Int) : stage6 k i x y s n = [toB k, toB (i / 16777216), toB (i / 65536), toB (i / 256), toB i, toB (x / 65536), toB (x / 256), toB x, toB (y / 65536), toB (y / 256), toB y, toB s, toB n, 0, 0, 0] := by
  simp [stage6, stage5, stage4, stage3, stage2, stage1, stage0, zero16, putB, List.replicate]
theorem packed_eq (k i x y s n : Int) : putB (stage6 k i x y s n) 16 (crcL ((stage6 k i x y s n).take 14) : Nat) 2 = packed k i x y s n := by
  rw [stage6_eq]
  simp [putB, packed]
theorem packed_len (k i x y s n : Int) : (packed k i x y s n).length = 16 := by simp [packed]

theorem run_arrF (b o cap : Nat) (w : World) : (Instr.arrayAt 136 (.slice (some ⟨b, o, none⟩) 16 cap)).run Try.prog w = .ok (.pointer (some ⟨b, o, none⟩)) w := by
  have e := Try.arrF
  rw [Try.lenF] at e
  simp [Instr.arrayAt, run_underlying e, go_sem]

def packF (k i x y s n : Int) : List Byte := if repB k i x y s n then packed k i x y s n else []
theorem made16 : (madeCells (Value.int .u8 0).cells (16 * 1)).toList = stage0.map eB := by
  simp [madeCells, Value.cells, stage0, zero16, eB, List.replicate]
  rfl

set_option maxRecDepth 10000 in
set_option maxHeartbeats 1600000 in
theorem implPackReport_any (k i x y s n : Int) (w : World) :
    Calls Try.prog 15 #[vReport k i x y s n] w fun e w' => ∃ a m cp, e = .returned (.tuple #[.slice a m cp, .bool (repB k i x y s n)]) ∧ OwnBy w.heap.size w' (.slice a m cp) (packF k i x y s n) ∧ Below w.heap.size w w' := by
  have HB := hide (Below.alloc1 w (.cells #[.int .i64 k, .int .i64 i, .int .i64 x, .int .i64 y, .int .i64 s, .int .i64 n] 25))
  have HO := hide (ownV_alloc w #[.int .i64 k, .int .i64 i, .int .i64 x, .int .i64 y, .int .i64 s, .int .i64 n] 25)
  have HS := hide fun W => implReportOk_any k i x y s n W
  have P0 : Hid (∀ g W, OwnV W g ((stage0 ).map eB) → Calls Try.prog 52 #[.pointer (some ⟨g, 0, none⟩), .int .i64 0, .int .i64 1, .int .i64 k] W fun e w' => e = .returned (.tuple #[]) ∧ OwnV w' g ((stage1 k).map eB) ∧ Kept (fun b => b = g) W w') := fun g W hW => by
    exact put_any g _ 0 1 k W hW (rfl) (by omega) (by omega)
  have P1 : Hid (∀ g W, OwnV W g ((stage1 k).map eB) → Calls Try.prog 52 #[.pointer (some ⟨g, 0, none⟩), .int .i64 1, .int .i64 5, .int .i64 i] W fun e w' => e = .returned (.tuple #[]) ∧ OwnV w' g ((stage2 k i).map eB) ∧ Kept (fun b => b = g) W w') := fun g W hW => by
    exact put_any g _ 1 5 i W hW (stage1_len k) (by omega) (by omega)
  have P2 : Hid (∀ g W, OwnV W g ((stage2 k i).map eB) → Calls Try.prog 52 #[.pointer (some ⟨g, 0, none⟩), .int .i64 5, .int .i64 8, .int .i64 x] W fun e w' => e = .returned (.tuple #[]) ∧ OwnV w' g ((stage3 k i x).map eB) ∧ Kept (fun b => b = g) W w') := fun g W hW => by
    exact put_any g _ 5 8 x W hW (stage2_len k i) (by omega) (by omega)
  have P3 : Hid (∀ g W, OwnV W g ((stage3 k i x).map eB) → Calls Try.prog 52 #[.pointer (some ⟨g, 0, none⟩), .int .i64 8, .int .i64 11, .int .i64 y] W fun e w' => e = .returned (.tuple #[]) ∧ OwnV w' g ((stage4 k i x y).map eB) ∧ Kept (fun b => b = g) W w') := fun g W hW => by
    exact put_any g _ 8 11 y W hW (stage3_len k i x) (by omega) (by omega)
  have P4 : Hid (∀ g W, OwnV W g ((stage4 k i x y).map eB) → Calls Try.prog 52 #[.pointer (some ⟨g, 0, none⟩), .int .i64 11, .int .i64 12, .int .i64 s] W fun e w' => e = .returned (.tuple #[]) ∧ OwnV w' g ((stage5 k i x y s).map eB) ∧ Kept (fun b => b = g) W w') := fun g W hW => by
    exact put_any g _ 11 12 s W hW (stage4_len k i x y) (by omega) (by omega)
  have P5 : Hid (∀ g W, OwnV W g ((stage5 k i x y s).map eB) → Calls Try.prog 52 #[.pointer (some ⟨g, 0, none⟩), .int .i64 12, .int .i64 13, .int .i64 n] W fun e w' => e = .returned (.tuple #[]) ∧ OwnV w' g ((stage6 k i x y s n).map eB) ∧ Kept (fun b => b = g) W w') := fun g W hW => by
    exact put_any g _ 12 13 n W hW (stage5_len k i x y s) (by omega) (by omega)
  have PC := hide fun g W (hW : OwnV W g ((stage6 k i x y s n).map eB)) => check_any g 0 _ W hW.frAt (stage6_len k i x y s n)
  have P6 : Hid (∀ g W, OwnV W g ((stage6 k i x y s n).map eB) → Calls Try.prog 52 #[.pointer (some ⟨g, 0, none⟩), .int .i64 14, .int .i64 16, .int .i64 (crcL ((stage6 k i x y s n).take 14) : Nat)] W fun e w' => e = .returned (.tuple #[]) ∧ OwnV w' g ((packed k i x y s n).map eB) ∧ Kept (fun b => b = g) W w') := fun g W hW => by
    rw [← packed_eq]
    exact put_any g _ 14 16 _ W hW (stage6_len k i x y s n) (by omega) (by omega)
  have HN : Hid (packF k i x y s n = if repB k i x y s n then packed k i x y s n else []) := rfl
  have HPL := hide (packed_len k i x y s n)
  generalize crcL ((stage6 k i x y s n).take 14) = cc at *
  generalize packF k i x y s n = pf at *
  generalize packed k i x y s n = pk at *
  generalize hs6 : stage6 k i x y s n = s6 at *
  generalize hs5 : stage5 k i x y s = s5 at *
  generalize hs4 : stage4 k i x y = s4 at *
  generalize hs3 : stage3 k i x = s3 at *
  generalize hs2 : stage2 k i = s2 at *
  generalize hs1 : stage1 k = s1 at *

  clear hs1 hs2 hs3 hs4 hs5 hs6
  unfold vReport at HS ⊢
  go_enter Try.func15, Try.ntmps15
  go_wp2_with fail
  refine (unhide HS _).mono ?_
  rintro e w1 ⟨rfl, hb⟩
  replace HB := hide (Below.step (unhide HB) hb)
  replace HO := hide ((unhide HO).step hb)
  clear hb HS
  cases hr : repB k i x y s n
  · rw [hr] at HN
    clear P0 P1 P2 P3 P4 P5 P6 PC
    go_wp2
    refine bodyPost_ret (v := .tuple #[.slice none 0 0, .bool false]) (by simp [results, Try.results15, go_sem]) rfl ⟨none, 0, 0, by rw [hr], ?_, unhide HB⟩
    rw [unhide HN]
    exact ⟨none, 0, rfl, Nat.le_refl _, Nat.zero_le _, fun h => absurd rfl h⟩
  rw [hr, if_pos rfl] at HN
  have hmk := run_make_recs (P := Try.prog) 22 5 _ 1 1 Try.underlying22 Try.infoU8 .i64 .i64 16 (by omega) (by omega)
  have hF := ownV_alloc w1 (madeCells (Value.int .u8 0).cells (16 * 1)) 5
  rw [made16] at hF
  have HF := hide hF
  have hA := Below.alloc1 w1 (.cells (madeCells (Value.int .u8 0).cells (16 * 1)) 5)
  have hlt := (unhide HO).lt
  replace HB := hide (Below.step (unhide HB) hA)
  replace HO := hide ((unhide HO).step hA)
  clear hF hA
  obtain ⟨g, eg⟩ : ∃ g, g = w1.heap.size := ⟨_, rfl⟩
  rw [← eg] at HF hlt
  have hgn : g ≠ w.heap.size := by omega
  have hgl : w.heap.size ≤ g := by omega
  have EG := hide eg
  clear eg
  generalize hV : w1.alloc (.cells (madeCells (Value.int .u8 0).cells (16 * 1)) 5) = V at HB HO HF
  have hmk' : (Instr.makeSlice 22 (.int .i64 16) (.int .i64 16)).run Try.prog w1 = .ok (.slice (some ⟨g, 0, none⟩) 16 16) V := by
    rw [← hV, unhide EG]
    exact hmk w1
  clear hmk hV EG
  have har := run_arrF g 0 16
  have d0 := (unhide HO).cell (i := 0) rfl
  have d1 := (unhide HO).cell (i := 1) rfl
  have d2 := (unhide HO).cell (i := 2) rfl
  have d3 := (unhide HO).cell (i := 3) rfl
  have d4 := (unhide HO).cell (i := 4) rfl
  have d5 := (unhide HO).cell (i := 5) rfl
  go_wp2_with fail
  refine (unhide P0 _ _ (unhide HF)).mono ?_
  rintro e w2 ⟨rfl, ho, hk⟩
  replace HB := hide ((unhide HB).trans (hk.below (B := w.heap.size) (unhide HB).size (fun b e => by omega)))
  replace HO := hide ((unhide HO).kept hk (fun e => hgn e.symm))
  replace HF := hide ho
  clear ho hk P0 d0 d1 d2 d3 d4 d5 hmk'
  have d0 := (unhide HO).cell (i := 0) rfl
  have d1 := (unhide HO).cell (i := 1) rfl
  have d2 := (unhide HO).cell (i := 2) rfl
  have d3 := (unhide HO).cell (i := 3) rfl
  have d4 := (unhide HO).cell (i := 4) rfl
  have d5 := (unhide HO).cell (i := 5) rfl
  go_wp2_with fail
  refine (unhide P1 _ _ (unhide HF)).mono ?_
  rintro e w3 ⟨rfl, ho, hk⟩
  replace HB := hide ((unhide HB).trans (hk.below (B := w.heap.size) (unhide HB).size (fun b e => by omega)))
  replace HO := hide ((unhide HO).kept hk (fun e => hgn e.symm))
  replace HF := hide ho
  clear ho hk P1 d0 d1 d2 d3 d4 d5
  have d0 := (unhide HO).cell (i := 0) rfl
  have d1 := (unhide HO).cell (i := 1) rfl
  have d2 := (unhide HO).cell (i := 2) rfl
  have d3 := (unhide HO).cell (i := 3) rfl
  have d4 := (unhide HO).cell (i := 4) rfl
  have d5 := (unhide HO).cell (i := 5) rfl
  go_wp2_with fail
  refine (unhide P2 _ _ (unhide HF)).mono ?_
  rintro e w4 ⟨rfl, ho, hk⟩
  replace HB := hide ((unhide HB).trans (hk.below (B := w.heap.size) (unhide HB).size (fun b e => by omega)))
  replace HO := hide ((unhide HO).kept hk (fun e => hgn e.symm))
  replace HF := hide ho
  clear ho hk P2 d0 d1 d2 d3 d4 d5
  have d0 := (unhide HO).cell (i := 0) rfl
  have d1 := (unhide HO).cell (i := 1) rfl
  have d2 := (unhide HO).cell (i := 2) rfl
  have d3 := (unhide HO).cell (i := 3) rfl
  have d4 := (unhide HO).cell (i := 4) rfl
  have d5 := (unhide HO).cell (i := 5) rfl
  go_wp2_with fail
  refine (unhide P3 _ _ (unhide HF)).mono ?_
  rintro e w5 ⟨rfl, ho, hk⟩
  replace HB := hide ((unhide HB).trans (hk.below (B := w.heap.size) (unhide HB).size (fun b e => by omega)))
  replace HO := hide ((unhide HO).kept hk (fun e => hgn e.symm))
  replace HF := hide ho
  clear ho hk P3 d0 d1 d2 d3 d4 d5
  have d0 := (unhide HO).cell (i := 0) rfl
  have d1 := (unhide HO).cell (i := 1) rfl
  have d2 := (unhide HO).cell (i := 2) rfl
  have d3 := (unhide HO).cell (i := 3) rfl
  have d4 := (unhide HO).cell (i := 4) rfl
  have d5 := (unhide HO).cell (i := 5) rfl
  go_wp2_with fail
  refine (unhide P4 _ _ (unhide HF)).mono ?_
  rintro e w6 ⟨rfl, ho, hk⟩
  replace HB := hide ((unhide HB).trans (hk.below (B := w.heap.size) (unhide HB).size (fun b e => by omega)))
  replace HO := hide ((unhide HO).kept hk (fun e => hgn e.symm))
  replace HF := hide ho
  clear ho hk P4 d0 d1 d2 d3 d4 d5
  have d0 := (unhide HO).cell (i := 0) rfl
  have d1 := (unhide HO).cell (i := 1) rfl
  have d2 := (unhide HO).cell (i := 2) rfl
  have d3 := (unhide HO).cell (i := 3) rfl
  have d4 := (unhide HO).cell (i := 4) rfl
  have d5 := (unhide HO).cell (i := 5) rfl
  go_wp2_with fail
  refine (unhide P5 _ _ (unhide HF)).mono ?_
  rintro e w7 ⟨rfl, ho, hk⟩
  replace HB := hide ((unhide HB).trans (hk.below (B := w.heap.size) (unhide HB).size (fun b e => by omega)))
  replace HO := hide ((unhide HO).kept hk (fun e => hgn e.symm))
  replace HF := hide ho
  clear ho hk P5 d0 d1 d2 d3 d4 d5
  go_wp2_with fail
  refine (unhide PC _ _ (unhide HF)).mono ?_
  rintro e w8 ⟨rfl, h9⟩
  have h8 := h9.symm
  subst h8
  clear h9 PC
  go_wp2_with fail
  refine (unhide P6 _ _ (unhide HF)).mono ?_
  rintro e w9 ⟨rfl, ho, hk⟩
  replace HB := hide ((unhide HB).trans (hk.below (B := w.heap.size) (unhide HB).size (fun b e => by omega)))
  replace HF := hide ho
  clear ho hk P6
  go_wp2
  refine bodyPost_ret (v := .tuple #[.slice (some ⟨g, 0, none⟩) 16 16, .bool true]) (by simp [results, Try.results15, go_sem]) rfl ⟨some ⟨g, 0, none⟩, 16, 16, by rw [hr], ?_, unhide HB⟩
  rw [unhide HN]
  exact ⟨_, 16, by rw [unhide HPL], by rw [unhide HPL]; exact Nat.le_refl _, by unfold maxLen; omega, fun _ => ⟨g, rfl, hgl, unhide HF⟩⟩

end Go.Proofs.Ytkjikjeecjendaa

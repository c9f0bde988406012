/- Frames: the program's report, PackReport, ReadReport. Written by wip/mkfm2.py. -/
import Derived.Test.YtkjikjeecjendaaFmE
namespace Go.Proofs.Ytkjikjeecjendaa
open Go.RowKit

theorem FrAt.below {w w' : World} {b o : Nat} {L : List Byte} (h : FrAt w b o L) (hb : Below w.heap.size w w') : FrAt w' b o L := fun i hi => (hb.cell (lt_of_cell (h i hi))).trans (h i hi)
theorem OwnV.frAt {w : World} {g : Nat} {L : List Byte} (h : OwnV w g (L.map eB)) : FrAt w g 0 L := fun i hi => by rw [Nat.zero_add]; exact h.cell (map_get L hi)

/-- The report that a frame tells. -/
def repOf (L : List Byte) : Value := vReport (numB (cutB L 0 1)) (numB (cutB L 1 5)) (fixB (numB (cutB L 5 8))) (fixB (numB (cutB L 8 11))) (numB (cutB L 11 12)) (numB (cutB L 12 13))
def repBOf (L : List Byte) : Bool := repB (numB (cutB L 0 1)) (numB (cutB L 1 5)) (fixB (numB (cutB L 5 8))) (fixB (numB (cutB L 8 11))) (numB (cutB L 11 12)) (numB (cutB L 12 13))

set_option maxRecDepth 10000 in
set_option maxHeartbeats 1600000 in
theorem report_any (b o : Nat) (L : List Byte) (w : World) (h : FrAt w b o L) (hl : L.length = 16) :
    Calls Try.prog 58 #[.pointer (some ⟨b, o, none⟩)] w fun e w' => e = .returned (repOf L) ∧ Below w.heap.size w w' := by
  have HA := hide (Below.alloc1 w (.cells #[.int .i64 0, .int .i64 0, .int .i64 0, .int .i64 0, .int .i64 0, .int .i64 0] 25))
  have H0 : Hid (∀ W, Below w.heap.size w W → Calls Try.prog 57 #[.pointer (some ⟨b, o, none⟩), .int .i64 0, .int .i64 1] W fun e w' => e = .returned (.int .i64 (numB (cutB L 0 1))) ∧ w' = W) := fun W hW => by
    exact number_any b o L 0 1 W (h.below hW) hl (by omega) (by omega) (by omega)
  have H1 : Hid (∀ W, Below w.heap.size w W → Calls Try.prog 57 #[.pointer (some ⟨b, o, none⟩), .int .i64 1, .int .i64 5] W fun e w' => e = .returned (.int .i64 (numB (cutB L 1 5))) ∧ w' = W) := fun W hW => by
    exact number_any b o L 1 5 W (h.below hW) hl (by omega) (by omega) (by omega)
  have H2 : Hid (∀ W, Below w.heap.size w W → Calls Try.prog 80 #[.pointer (some ⟨b, o, none⟩), .int .i64 5, .int .i64 8] W fun e w' => e = .returned (.int .i64 (fixB (numB (cutB L 5 8)))) ∧ w' = W) := fun W hW => by
    exact fix_any b o L 5 8 W (h.below hW) hl (by omega) (by omega) (by omega)
  have H3 : Hid (∀ W, Below w.heap.size w W → Calls Try.prog 80 #[.pointer (some ⟨b, o, none⟩), .int .i64 8, .int .i64 11] W fun e w' => e = .returned (.int .i64 (fixB (numB (cutB L 8 11)))) ∧ w' = W) := fun W hW => by
    exact fix_any b o L 8 11 W (h.below hW) hl (by omega) (by omega) (by omega)
  have H4 : Hid (∀ W, Below w.heap.size w W → Calls Try.prog 57 #[.pointer (some ⟨b, o, none⟩), .int .i64 11, .int .i64 12] W fun e w' => e = .returned (.int .i64 (numB (cutB L 11 12))) ∧ w' = W) := fun W hW => by
    exact number_any b o L 11 12 W (h.below hW) hl (by omega) (by omega) (by omega)
  have H5 : Hid (∀ W, Below w.heap.size w W → Calls Try.prog 57 #[.pointer (some ⟨b, o, none⟩), .int .i64 12, .int .i64 13] W fun e w' => e = .returned (.int .i64 (numB (cutB L 12 13))) ∧ w' = W) := fun W hW => by
    exact number_any b o L 12 13 W (h.below hW) hl (by omega) (by omega) (by omega)
  clear h hl
  unfold repOf
  generalize numB (cutB L 0 1) = n0 at *
  generalize numB (cutB L 1 5) = n1 at *
  generalize fixB (numB (cutB L 5 8)) = n2 at *
  generalize fixB (numB (cutB L 8 11)) = n3 at *
  generalize numB (cutB L 11 12) = n4 at *
  generalize numB (cutB L 12 13) = n5 at *
  go_enter Try.func58, Try.ntmps58
  go_wp2_with fail
  refine (unhide H0 _ (unhide HA)).mono ?_
  rintro e w1 ⟨rfl, h9⟩
  have hB := unhide HA
  have hO := ownV_alloc w #[.int .i64 0, .int .i64 0, .int .i64 0, .int .i64 0, .int .i64 0, .int .i64 0] 25
  rw [← h9] at hB hO
  clear h9 HA
  have HB := hide hB
  have HO := hide hO
  clear hB hO
  go_wp2_with fail
  refine (unhide H1 _ (unhide HB)).mono ?_
  rintro e w2 ⟨rfl, h9⟩
  have h8 := h9.symm
  subst h8
  clear h9
  go_wp2_with fail
  refine (unhide H2 _ (unhide HB)).mono ?_
  rintro e w2 ⟨rfl, h9⟩
  have h8 := h9.symm
  subst h8
  clear h9
  go_wp2_with fail
  refine (unhide H3 _ (unhide HB)).mono ?_
  rintro e w2 ⟨rfl, h9⟩
  have h8 := h9.symm
  subst h8
  clear h9
  go_wp2_with fail
  refine (unhide H4 _ (unhide HB)).mono ?_
  rintro e w2 ⟨rfl, h9⟩
  have h8 := h9.symm
  subst h8
  clear h9
  go_wp2_with fail
  refine (unhide H5 _ (unhide HB)).mono ?_
  rintro e w2 ⟨rfl, h9⟩
  have h8 := h9.symm
  subst h8
  clear h9
  clear H0 H1 H2 H3 H4 H5
  have d0 := (unhide HO).cell (i := 0) rfl
  have df0 := (unhide HO).frozen 0
  have d1 := (unhide HO).cell (i := 1) rfl
  have df1 := (unhide HO).frozen 1
  have d2 := (unhide HO).cell (i := 2) rfl
  have df2 := (unhide HO).frozen 2
  have d3 := (unhide HO).cell (i := 3) rfl
  have df3 := (unhide HO).frozen 3
  have d4 := (unhide HO).cell (i := 4) rfl
  have df4 := (unhide HO).frozen 4
  have d5 := (unhide HO).cell (i := 5) rfl
  have df5 := (unhide HO).frozen 5
  have HW := hide (((((((unhide HB).setCell (p := ⟨w.heap.size, 0, none⟩) (Nat.le_refl _) (.int .i64 n0)).setCell (p := ⟨w.heap.size, 1, none⟩) (Nat.le_refl _) (.int .i64 n1)).setCell (p := ⟨w.heap.size, 2, none⟩) (Nat.le_refl _) (.int .i64 n2)).setCell (p := ⟨w.heap.size, 3, none⟩) (Nat.le_refl _) (.int .i64 n3)).setCell (p := ⟨w.heap.size, 4, none⟩) (Nat.le_refl _) (.int .i64 n4)).setCell (p := ⟨w.heap.size, 5, none⟩) (Nat.le_refl _) (.int .i64 n5))
  go_wp2
  refine bodyPost_ret (v := vReport n0 n1 n2 n3 n4 n5) (by simp [results, Try.results58, go_sem, vReport, d0, d1, d2, d3, d4, d5]) rfl ⟨rfl, unhide HW⟩

/-- The frame of a report, in numbers. -/
def packed (k i x y s n : Int) : List Byte :=
  let f := [toB k, toB (i / 16777216), toB (i / 65536), toB (i / 256), toB i, toB (x / 65536), toB (x / 256), toB x, toB (y / 65536), toB (y / 256), toB y, toB s, toB n, 0]
  f ++ [toB ((crcL f : Nat) / 256 : Int), toB (crcL f : Nat)]
def zero16 : List Byte := List.replicate 16 0
theorem zero16_len : zero16.length = 16 := rfl


end Go.Proofs.Ytkjikjeecjendaa

/- Customs: an office in memory; contracts of the program's deedOk, statesOf, find, room, settle. Written by wip/mkcsn.py. -/
import Derived.Test.YtojlkdmlelgcbaaCsC
import Derived.Test.YtojlkdmlelgcbaaCsD
import Derived.Test.YtojlkdmlelgcbaaCsE
import Derived.Test.YtojlkdmlelgcbaaCsA
import Derived.Test.YtojlkdmlelgcbaaCsW
import Derived.Deep.QuietTactic
import Derived.BigQuiet
import Derived.Deep.DeepCutAuto
namespace Go.Proofs.Ytojlkdmlelgcbaa
open Go.RowKit

/-- An office in memory: its box, its lots, its purses, apart. -/
structure Of (w : World) (go gl cap gp : Nat) (ok : Bool) (L : List LotT) (P : List TraderT) (tk : Int) : Prop where
  box : OwnV w go [.bool ok, .slice (some ⟨gl, 0, none⟩) L.length cap, .slice (some ⟨gp, 0, none⟩) P.length P.length, .int .i64 tk]
  row : RowB 39 7 eLot 0 w (some ⟨gl, 0, none⟩) L.length cap L
  pur : OwnV w gp (recCells 5 ePur P)
  ap : go ≠ gl ∧ go ≠ gp ∧ gl ≠ gp
/-- The blocks of an office. -/
def OfT (go gl gp : Nat) (b : Nat) : Prop := b = go ∨ b = gl ∨ b = gp
section
variable {w w' : World} {go gl cap gp : Nat} {ok : Bool} {L : List LotT} {P : List TraderT} {tk : Int}
theorem Of.step (h : Of w go gl cap gp ok L P tk) (hb : Below w.heap.size w w') : Of w' go gl cap gp ok L P tk := ⟨h.box.step hb, h.row.below hb, h.pur.step hb, h.ap⟩
theorem Of.own (h : Of w go gl cap gp ok L P tk) : OwnV w gl (recCells 7 eLot L) := (h.row.ownG (by omega)).1
theorem Of.capb (h : Of w go gl cap gp ok L P tk) : L.length ≤ cap ∧ cap ≤ maxLen := ⟨(h.row.ownG (by omega)).2.1, (h.row.ownG (by omega)).2.2.1⟩
theorem Of.lots (h : Of w go gl cap gp ok L P tk) : RLot w (.slice (some ⟨gl, 0, none⟩) L.length cap) L := h.row.recs (by omega)
theorem Of.lt (h : Of w go gl cap gp ok L P tk) : go < w.heap.size ∧ gl < w.heap.size ∧ gp < w.heap.size := ⟨h.box.lt, h.own.lt, h.pur.lt⟩
theorem Of.kept {T : Nat → Prop} (h : Of w go gl cap gp ok L P tk) (hk : Kept T w w') (h1 : ¬ T go) (h2 : ¬ T gl) (h3 : ¬ T gp) : Of w' go gl cap gp ok L P tk :=
  ⟨h.box.kept hk h1, h.row.kept hk (fun g e _ _ => by simp only [Option.some.injEq, Addr.mk.injEq, and_true] at e; subst e; exact h2), h.pur.kept hk h3, h.ap⟩
theorem Of.putTk (h : Of w go gl cap gp ok L P tk) (x : Int) : Of (w.setCell ⟨go, 3, none⟩ (.int .i64 x)) go gl cap gp ok L P x :=
  ⟨h.box.set 3 _ (by simp), h.row.kept (P := fun b => b = go) (Kept.setCell (T := fun b => b = go) (Kept.refl _ w) (p := ⟨go, 3, none⟩) rfl _) (fun g e _ _ => by simp only [Option.some.injEq, Addr.mk.injEq, and_true] at e; subst e; exact fun e => h.ap.1 e.symm), h.pur.other (a := ⟨go, 3, none⟩) (fun e => h.ap.2.1 e.symm) _, h.ap⟩
theorem Of.putL (h : Of w go gl cap gp ok L P tk) {k j : Nat} (hk : k < L.length) (hj : j < 7) (y : LotT) (hy : ∀ j', j' < 7 → j' ≠ j → eLot y j' = eLot (L.getD k default) j') {u : Value} (hu : eLot y j = u) : Of (w.setCell ⟨gl, k * 7 + j, none⟩ u) go gl cap gp ok (L.set k y) P tk :=
  ⟨by rw [List.length_set]; exact h.box.other (a := ⟨gl, k * 7 + j, none⟩) h.ap.1 _, by rw [List.length_set]; exact h.row.set hj hk y _ hu hy, h.pur.other (a := ⟨gl, k * 7 + j, none⟩) (fun e => h.ap.2.2 e.symm) _, h.ap⟩
theorem Of.putP (h : Of w go gl cap gp ok L P tk) (hk : Kept (fun b => b = gp) w w') {Q : List TraderT} (hQ : OwnV w' gp (recCells 5 ePur Q)) (hl : Q.length = P.length) : Of w' go gl cap gp ok L Q tk :=
  ⟨by rw [hl]; exact h.box.kept hk h.ap.2.1, h.row.kept hk (fun g e _ _ => by simp only [Option.some.injEq, Addr.mk.injEq, and_true] at e; subst e; exact h.ap.2.2), hQ, h.ap⟩
/-- A lot more, in a row that may be another. -/
theorem Of.putRow (h : Of w go gl cap gp ok L P tk) (hk : Kept (fun b => b = gl) w w') {g' c' n : Nat} {M : List LotT} (hr : RowB 39 7 eLot 0 w' (some ⟨g', 0, none⟩) n c' M) (hn : M.length = n) (hg : g' = gl ∨ w.heap.size ≤ g') :
    Of (w'.setCell ⟨go, 1, none⟩ (.slice (some ⟨g', 0, none⟩) n c')) go g' c' gp ok M P tk := by
  have hl := h.lt
  have n1 : go ≠ g' := by rcases hg with e | e; · rw [e]; exact h.ap.1
                          · omega
  have n2 : g' ≠ gp := by rcases hg with e | e; · rw [e]; exact h.ap.2.2
                          · omega
  subst hn
  exact ⟨(h.box.kept hk h.ap.1).set 1 _ (by simp), hr.kept (P := fun b => b = go) (Kept.setCell (T := fun b => b = go) (Kept.refl _ w') (p := ⟨go, 1, none⟩) rfl _) (fun g e _ _ => by simp only [Option.some.injEq, Addr.mk.injEq, and_true] at e; subst e; exact fun e => n1 e.symm), (h.pur.kept hk (fun e => h.ap.2.2 e.symm)).other (a := ⟨go, 1, none⟩) (fun e => h.ap.2.1 e.symm) _, n1, h.ap.2.1, n2⟩
theorem Of.lot (h : Of w go gl cap gp ok L P tk) {k : Nat} (hk : k < L.length) {x0 x1 x2 x3 x4 x5 x6 : Int} (e : L.getD k default = (x0, x1, x2, x3, x4, x5, x6)) : w.cell? ⟨gl, k * 7, none⟩ = some (.int .i64 x0) ∧ w.cell? ⟨gl, k * 7 + 1, none⟩ = some (.int .i64 x1) ∧ w.cell? ⟨gl, k * 7 + 2, none⟩ = some (.int .i64 x2) ∧ w.cell? ⟨gl, k * 7 + 3, none⟩ = some (.int .i64 x3) ∧ w.cell? ⟨gl, k * 7 + 4, none⟩ = some (.int .i64 x4) ∧ w.cell? ⟨gl, k * 7 + 5, none⟩ = some (.int .i64 x5) ∧ w.cell? ⟨gl, k * 7 + 6, none⟩ = some (.int .i64 x6) := by
  have c := fun j (hj : j < 7) => h.own.cell (recCells_get (enc := eLot) hk hj)
  rw [e] at c
  exact ⟨c 0 (by omega), c 1 (by omega), c 2 (by omega), c 3 (by omega), c 4 (by omega), c 5 (by omega), c 6 (by omega)⟩
end

set_option maxHeartbeats 3200000 in
theorem deedOk_any (kd id ow ma va ra nw : Int) (n : Nat) (w : World) (hn : n ≤ 4611686018427387904) : Calls Try.prog 73 #[vDeed kd id ow ma va ra nw, .int .i64 (n : Int)] w fun e w' => e = .returned (.bool (deedB n (kd, id, ow, ma, va, ra, nw))) ∧ Below w.heap.size w w' := by
  have HW0 := hide fun k => Below.alloc1 w (.cells #[.int .i64 k, .int .i64 id, .int .i64 ow, .int .i64 ma, .int .i64 va, .int .i64 ra, .int .i64 nw] 34)
  have HDU := hide fun V => implDuty6_any ma va ra V
  unfold vDeed
  cases h0 : inB id 1 1000000 with
  | false =>
    have HW := hide (unhide HW0 kd)
    have HB : Hid (deedB n (kd, id, ow, ma, va, ra, nw) = false) := by show _ = _; simp [deedB, h0]
    go_enter Try.func73, Try.ntmps73
    go_wp2_with (first | (go_at_call 80; refine (isLotId_any _ _).mono ?_; rintro e w9 ⟨rfl, h9⟩; have h8 := h9.symm; subst h8; clear h9) | (go_at_call 15; refine (unhide HDU _).mono ?_; rintro e w9 ⟨rfl, h9⟩; have h8 := h9.symm; subst h8; clear h9) | (go_at_call 49; refine (within_any _ _ _ _).mono ?_; rintro e w9 ⟨rfl, h9⟩; have h8 := h9.symm; subst h8; clear h9))
    go_ret
    exact ⟨by rw [unhide HB]; rfl, unhide HW⟩
  | true =>
  by_cases e1 : kd = 1
  · subst e1
    have HW := hide (unhide HW0 1)
    clear HW0
    cases h1 : dutB ma va ra with
    | false =>
      rw [h1] at HDU
      have HB : Hid (deedB n (1, id, ow, ma, va, ra, nw) = false) := by show _ = _; simp [deedB, h1]
      go_enter Try.func73, Try.ntmps73
      go_wp2_with (first | (go_at_call 80; refine (isLotId_any _ _).mono ?_; rintro e w9 ⟨rfl, h9⟩; have h8 := h9.symm; subst h8; clear h9) | (go_at_call 15; refine (unhide HDU _).mono ?_; rintro e w9 ⟨rfl, h9⟩; have h8 := h9.symm; subst h8; clear h9) | (go_at_call 49; refine (within_any _ _ _ _).mono ?_; rintro e w9 ⟨rfl, h9⟩; have h8 := h9.symm; subst h8; clear h9))
      go_ret
      exact ⟨by rw [unhide HB]; rfl, unhide HW⟩
    | true =>
      rw [h1] at HDU
      cases h2 : inB ow 0 ((n : Int) - 1) with
      | false =>
        have HB : Hid (deedB n (1, id, ow, ma, va, ra, nw) = false) := by show _ = _; simp [deedB, h2]
        go_enter Try.func73, Try.ntmps73
        go_wp2_with (first | (go_at_call 80; refine (isLotId_any _ _).mono ?_; rintro e w9 ⟨rfl, h9⟩; have h8 := h9.symm; subst h8; clear h9) | (go_at_call 15; refine (unhide HDU _).mono ?_; rintro e w9 ⟨rfl, h9⟩; have h8 := h9.symm; subst h8; clear h9) | (go_at_call 49; refine (within_any _ _ _ _).mono ?_; rintro e w9 ⟨rfl, h9⟩; have h8 := h9.symm; subst h8; clear h9))
        go_ret
        exact ⟨by rw [unhide HB]; rfl, unhide HW⟩
      | true =>
        have HB : Hid (deedB n (1, id, ow, ma, va, ra, nw) = true) := by show _ = _; simp [deedB, h0, h1, h2]
        go_enter Try.func73, Try.ntmps73
        go_wp2_with (first | (go_at_call 80; refine (isLotId_any _ _).mono ?_; rintro e w9 ⟨rfl, h9⟩; have h8 := h9.symm; subst h8; clear h9) | (go_at_call 15; refine (unhide HDU _).mono ?_; rintro e w9 ⟨rfl, h9⟩; have h8 := h9.symm; subst h8; clear h9) | (go_at_call 49; refine (within_any _ _ _ _).mono ?_; rintro e w9 ⟨rfl, h9⟩; have h8 := h9.symm; subst h8; clear h9))
        go_ret
        exact ⟨by rw [unhide HB]; rfl, unhide HW⟩
  by_cases e2 : kd = 2
  · subst e2
    have HW := hide (unhide HW0 2)
    clear HW0
    have HB : Hid (deedB n (2, id, ow, ma, va, ra, nw) = true) := by show _ = _; simp [deedB, h0]
    go_enter Try.func73, Try.ntmps73
    go_wp2_with (first | (go_at_call 80; refine (isLotId_any _ _).mono ?_; rintro e w9 ⟨rfl, h9⟩; have h8 := h9.symm; subst h8; clear h9) | (go_at_call 15; refine (unhide HDU _).mono ?_; rintro e w9 ⟨rfl, h9⟩; have h8 := h9.symm; subst h8; clear h9) | (go_at_call 49; refine (within_any _ _ _ _).mono ?_; rintro e w9 ⟨rfl, h9⟩; have h8 := h9.symm; subst h8; clear h9))
    go_ret
    exact ⟨by rw [unhide HB]; rfl, unhide HW⟩
  by_cases e3 : kd = 3
  · subst e3
    have HW := hide (unhide HW0 3)
    clear HW0
    have HB : Hid (deedB n (3, id, ow, ma, va, ra, nw) = true) := by show _ = _; simp [deedB, h0]
    go_enter Try.func73, Try.ntmps73
    go_wp2_with (first | (go_at_call 80; refine (isLotId_any _ _).mono ?_; rintro e w9 ⟨rfl, h9⟩; have h8 := h9.symm; subst h8; clear h9) | (go_at_call 15; refine (unhide HDU _).mono ?_; rintro e w9 ⟨rfl, h9⟩; have h8 := h9.symm; subst h8; clear h9) | (go_at_call 49; refine (within_any _ _ _ _).mono ?_; rintro e w9 ⟨rfl, h9⟩; have h8 := h9.symm; subst h8; clear h9))
    go_ret
    exact ⟨by rw [unhide HB]; rfl, unhide HW⟩
  by_cases e4 : kd = 4
  · subst e4
    have HW := hide (unhide HW0 4)
    clear HW0
    have HB : Hid (deedB n (4, id, ow, ma, va, ra, nw) = true) := by show _ = _; simp [deedB, h0]
    go_enter Try.func73, Try.ntmps73
    go_wp2_with (first | (go_at_call 80; refine (isLotId_any _ _).mono ?_; rintro e w9 ⟨rfl, h9⟩; have h8 := h9.symm; subst h8; clear h9) | (go_at_call 15; refine (unhide HDU _).mono ?_; rintro e w9 ⟨rfl, h9⟩; have h8 := h9.symm; subst h8; clear h9) | (go_at_call 49; refine (within_any _ _ _ _).mono ?_; rintro e w9 ⟨rfl, h9⟩; have h8 := h9.symm; subst h8; clear h9))
    go_ret
    exact ⟨by rw [unhide HB]; rfl, unhide HW⟩
  by_cases e5 : kd = 5
  · subst e5
    have HW := hide (unhide HW0 5)
    clear HW0
    have HB : Hid (deedB n (5, id, ow, ma, va, ra, nw) = true) := by show _ = _; simp [deedB, h0]
    go_enter Try.func73, Try.ntmps73
    go_wp2_with (first | (go_at_call 80; refine (isLotId_any _ _).mono ?_; rintro e w9 ⟨rfl, h9⟩; have h8 := h9.symm; subst h8; clear h9) | (go_at_call 15; refine (unhide HDU _).mono ?_; rintro e w9 ⟨rfl, h9⟩; have h8 := h9.symm; subst h8; clear h9) | (go_at_call 49; refine (within_any _ _ _ _).mono ?_; rintro e w9 ⟨rfl, h9⟩; have h8 := h9.symm; subst h8; clear h9))
    go_ret
    exact ⟨by rw [unhide HB]; rfl, unhide HW⟩
  by_cases e6 : kd = 6
  · subst e6
    have HW := hide (unhide HW0 6)
    clear HW0
    have HB : Hid (deedB n (6, id, ow, ma, va, ra, nw) = true) := by show _ = _; simp [deedB, h0]
    go_enter Try.func73, Try.ntmps73
    go_wp2_with (first | (go_at_call 80; refine (isLotId_any _ _).mono ?_; rintro e w9 ⟨rfl, h9⟩; have h8 := h9.symm; subst h8; clear h9) | (go_at_call 15; refine (unhide HDU _).mono ?_; rintro e w9 ⟨rfl, h9⟩; have h8 := h9.symm; subst h8; clear h9) | (go_at_call 49; refine (within_any _ _ _ _).mono ?_; rintro e w9 ⟨rfl, h9⟩; have h8 := h9.symm; subst h8; clear h9))
    go_ret
    exact ⟨by rw [unhide HB]; rfl, unhide HW⟩
  by_cases e7 : kd = 7
  · subst e7
    have HW := hide (unhide HW0 7)
    clear HW0
    have HB : Hid (deedB n (7, id, ow, ma, va, ra, nw) = true) := by show _ = _; simp [deedB, h0]
    go_enter Try.func73, Try.ntmps73
    go_wp2_with (first | (go_at_call 80; refine (isLotId_any _ _).mono ?_; rintro e w9 ⟨rfl, h9⟩; have h8 := h9.symm; subst h8; clear h9) | (go_at_call 15; refine (unhide HDU _).mono ?_; rintro e w9 ⟨rfl, h9⟩; have h8 := h9.symm; subst h8; clear h9) | (go_at_call 49; refine (within_any _ _ _ _).mono ?_; rintro e w9 ⟨rfl, h9⟩; have h8 := h9.symm; subst h8; clear h9))
    go_ret
    exact ⟨by rw [unhide HB]; rfl, unhide HW⟩
  by_cases e8 : kd = 8
  · subst e8
    have HW := hide (unhide HW0 8)
    clear HW0
    by_cases h1 : 1 ≤ ma
    · have d1 : decide (1 ≤ ma) = true := by simpa using h1
      cases h2 : inB nw 1 1000000 with
      | false =>
        have HB : Hid (deedB n (8, id, ow, ma, va, ra, nw) = false) := by show _ = _; simp [deedB, h2]
        go_enter Try.func73, Try.ntmps73
        go_wp2_with (first | (go_at_call 80; refine (isLotId_any _ _).mono ?_; rintro e w9 ⟨rfl, h9⟩; have h8 := h9.symm; subst h8; clear h9) | (go_at_call 15; refine (unhide HDU _).mono ?_; rintro e w9 ⟨rfl, h9⟩; have h8 := h9.symm; subst h8; clear h9) | (go_at_call 49; refine (within_any _ _ _ _).mono ?_; rintro e w9 ⟨rfl, h9⟩; have h8 := h9.symm; subst h8; clear h9))
        go_ret
        exact ⟨by rw [unhide HB]; rfl, unhide HW⟩
      | true =>
        have HB : Hid (deedB n (8, id, ow, ma, va, ra, nw) = true) := by show _ = _; simp [deedB, h0, h1, h2]
        go_enter Try.func73, Try.ntmps73
        go_wp2_with (first | (go_at_call 80; refine (isLotId_any _ _).mono ?_; rintro e w9 ⟨rfl, h9⟩; have h8 := h9.symm; subst h8; clear h9) | (go_at_call 15; refine (unhide HDU _).mono ?_; rintro e w9 ⟨rfl, h9⟩; have h8 := h9.symm; subst h8; clear h9) | (go_at_call 49; refine (within_any _ _ _ _).mono ?_; rintro e w9 ⟨rfl, h9⟩; have h8 := h9.symm; subst h8; clear h9))
        go_ret
        exact ⟨by rw [unhide HB]; rfl, unhide HW⟩
    · have d1 : decide (1 ≤ ma) = false := by simpa using h1
      have HB : Hid (deedB n (8, id, ow, ma, va, ra, nw) = false) := by show _ = _; simp [deedB, h1]
      go_enter Try.func73, Try.ntmps73
      go_wp2_with (first | (go_at_call 80; refine (isLotId_any _ _).mono ?_; rintro e w9 ⟨rfl, h9⟩; have h8 := h9.symm; subst h8; clear h9) | (go_at_call 15; refine (unhide HDU _).mono ?_; rintro e w9 ⟨rfl, h9⟩; have h8 := h9.symm; subst h8; clear h9) | (go_at_call 49; refine (within_any _ _ _ _).mono ?_; rintro e w9 ⟨rfl, h9⟩; have h8 := h9.symm; subst h8; clear h9))
      go_ret
      exact ⟨by rw [unhide HB]; rfl, unhide HW⟩
  have HW := hide (unhide HW0 kd)
  have hr : ¬ (2 ≤ kd ∧ kd ≤ 7) := by omega
  have HB : Hid (deedB n (kd, id, ow, ma, va, ra, nw) = false) := by show _ = _; simp only [deedB, if_neg e1, if_neg hr, if_neg e8, Bool.and_false]
  have d1 : (kd == 1) = false := by simpa using e1
  have d2 : (kd == 2) = false := by simpa using e2
  have d3 : (kd == 3) = false := by simpa using e3
  have d4 : (kd == 4) = false := by simpa using e4
  have d5 : (kd == 5) = false := by simpa using e5
  have d6 : (kd == 6) = false := by simpa using e6
  have d7 : (kd == 7) = false := by simpa using e7
  have d8 : (kd == 8) = false := by simpa using e8
  clear hr HW0
  go_enter Try.func73, Try.ntmps73
  go_wp2_with (first | (go_at_call 80; refine (isLotId_any _ _).mono ?_; rintro e w9 ⟨rfl, h9⟩; have h8 := h9.symm; subst h8; clear h9) | (go_at_call 15; refine (unhide HDU _).mono ?_; rintro e w9 ⟨rfl, h9⟩; have h8 := h9.symm; subst h8; clear h9) | (go_at_call 49; refine (within_any _ _ _ _).mono ?_; rintro e w9 ⟨rfl, h9⟩; have h8 := h9.symm; subst h8; clear h9))
  go_ret
  exact ⟨by rw [unhide HB]; rfl, unhide HW⟩

set_option maxHeartbeats 1600000 in
theorem statesOf_any (kd : Int) (w : World) (h : 2 ≤ kd ∧ kd ≤ 8) : Calls Try.prog 76 #[.int .i64 kd] w fun e w' => ∃ y, e = .returned (.tuple #[.int .i64 (wantS kd), .int .i64 y]) ∧ (kd ≠ 8 → y = leftS kd) ∧ w' = w := by
  have h1 : kd = 2 ∨ kd = 3 ∨ kd = 4 ∨ kd = 5 ∨ kd = 6 ∨ kd = 7 ∨ kd = 8 := by omega
  clear h
  rcases h1 with rfl | rfl | rfl | rfl | rfl | rfl | rfl
  · go_enter Try.func76, Try.ntmps76
    go_wp2
    refine bodyPost_ret (v := .tuple #[.int .i64 1, .int .i64 2]) (by simp [results, Try.results76, go_sem]) rfl ⟨2, rfl, fun _ => rfl, rfl⟩
  · go_enter Try.func76, Try.ntmps76
    go_wp2
    refine bodyPost_ret (v := .tuple #[.int .i64 2, .int .i64 1]) (by simp [results, Try.results76, go_sem]) rfl ⟨1, rfl, fun _ => rfl, rfl⟩
  · go_enter Try.func76, Try.ntmps76
    go_wp2
    refine bodyPost_ret (v := .tuple #[.int .i64 1, .int .i64 4]) (by simp [results, Try.results76, go_sem]) rfl ⟨4, rfl, fun _ => rfl, rfl⟩
  · go_enter Try.func76, Try.ntmps76
    go_wp2
    refine bodyPost_ret (v := .tuple #[.int .i64 1, .int .i64 3]) (by simp [results, Try.results76, go_sem]) rfl ⟨3, rfl, fun _ => rfl, rfl⟩
  · go_enter Try.func76, Try.ntmps76
    go_wp2
    refine bodyPost_ret (v := .tuple #[.int .i64 3, .int .i64 5]) (by simp [results, Try.results76, go_sem]) rfl ⟨5, rfl, fun _ => rfl, rfl⟩
  · go_enter Try.func76, Try.ntmps76
    go_wp2
    refine bodyPost_ret (v := .tuple #[.int .i64 4, .int .i64 5]) (by simp [results, Try.results76, go_sem]) rfl ⟨5, rfl, fun _ => rfl, rfl⟩
  · go_enter Try.func76, Try.ntmps76
    go_wp2
    refine bodyPost_ret (v := .tuple #[.int .i64 1, .int .i64 1]) (by simp [results, Try.results76, go_sem]) rfl ⟨1, rfl, fun h => absurd rfl h, rfl⟩

set_option maxHeartbeats 1600000 in
theorem find_any (go gl cap gp : Nat) (ok : Bool) (L : List LotT) (P : List TraderT) (tk id : Int) (w : World) (h : Of w go gl cap gp ok L P tk) (ha : AscL L) (hs : L.length ≤ 1048576) :
    Calls Try.prog 75 #[.pointer (some ⟨go, 0, none⟩), .int .i64 id] w fun e w' => e = .returned (.tuple #[.int .i64 (lplc L id : Nat), .bool (lhas L id)]) ∧ Below w.heap.size w w' := by
  have Q1 := hide (bsFunc_any (some ⟨gl, 0, none⟩) L.length cap L id w h.lots hs (asc_lt ha))
  have c1 := h.box.cell (i := 1) rfl
  generalize lplc L id = k at *
  generalize lhas L id = b at *
  clear h ha
  go_enter Try.func75, Try.ntmps75
  go_wp2_with fail
  refine (unhide Q1).mono ?_
  rintro e w1 ⟨rfl, hb⟩
  have HW := hide hb
  clear hb c1
  go_wp2
  go_ret2
  exact ⟨rfl, unhide HW⟩

set_option maxHeartbeats 1600000 in
theorem room_any (go gl cap gp : Nat) (ok : Bool) (L : List LotT) (P : List TraderT) (tk id : Int) (w : World) (h : Of w go gl cap gp ok L P tk) (ha : AscL L) (hs : L.length ≤ 1048576) :
    Calls Try.prog 85 #[.pointer (some ⟨go, 0, none⟩), .int .i64 id] w fun e w' => e = .returned (.tuple #[.int .i64 (lplc L id : Nat), .bool (roomL L id)]) ∧ Below w.heap.size w w' := by
  have Q1 := hide (find_any go gl cap gp ok L P tk id w h ha hs)
  have HO := hide h.box
  have ER : Hid (roomL L id = (!lhas L id && decide (L.length < 40))) := rfl
  generalize lplc L id = k at *
  generalize roomL L id = rb at *
  clear h ha
  cases hB : lhas L id with
  | true =>
    rw [hB] at Q1 ER
    have HF : Hid (rb = false) := by show _ = _; rw [unhide ER]; rfl
    go_enter Try.func85, Try.ntmps85
    go_wp2_with fail
    refine (unhide Q1).mono ?_
    rintro e w1 ⟨rfl, hb⟩
    have HW := hide hb
    clear hb
    go_upto_region 2 with (fail)
    go_quiet (fail)
    go_wp2
    go_ret2
    exact ⟨by rw [unhide HF]; rfl, below_drewN (unhide HW) _⟩
  | false =>
    rw [hB] at Q1 ER
    go_enter Try.func85, Try.ntmps85
    go_wp2_with fail
    refine (unhide Q1).mono ?_
    rintro e w1 ⟨rfl, hb⟩
    have HW := hide hb
    have c1 := ((unhide HO).step hb).cell (i := 1) rfl
    clear hb
    by_cases h4 : L.length < 40
    · have d1 : decide ((L.length : Int) < 40) = true := by rw [decide_eq_true_eq]; omega
      have HF : Hid (rb = true) := by show _ = _; rw [unhide ER]; simpa using h4
      go_upto_region 2 with (fail)
      go_quiet (fail)
      go_wp2
      go_ret2
      exact ⟨by rw [unhide HF]; rfl, below_drewN (unhide HW) _⟩
    · have d1 : decide ((L.length : Int) < 40) = false := by rw [decide_eq_false_iff_not]; omega
      have HF : Hid (rb = false) := by show _ = _; rw [unhide ER]; simpa using h4
      go_upto_region 2 with (fail)
      go_quiet (fail)
      go_wp2
      go_ret2
      exact ⟨by rw [unhide HF]; rfl, below_drewN (unhide HW) _⟩

end Go.Proofs.Ytojlkdmlelgcbaa

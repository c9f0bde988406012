/- Lists of texts: words; contracts of the laws' own szStringS, toStringS, eqStringS, markStringS, heldStringS. No statement about the program stands here. -/
import Derived.Test.YtjpogaidcmndoaaOwC
import Derived.Test.YtjpogaidcmndoaaWalkF
import Derived.Test.YtjpogaidcmndoaaExactKit
import Derived.Test.YtjpogaidcmndoaaMtA
import Derived.BigQuiet
namespace Go.Proofs.Ytjpogaidcmndoaa
open Go.RowKit

/-- v is a list of the texts H. -/
abbrev SIn := CIn Value.string
abbrev strs (H : List ByteArray) : List Value := H.map Value.string
theorem CIn.slice_len {α : Type} [Inhabited α] {E : α → Value} {w : World} {ao : Option Addr} {m cap : Nat} {L : List α} (h : CIn E w (.slice ao m cap) L) : L.length = m ∧ m ≤ cap ∧ cap ≤ maxLen := by
  obtain ⟨_, _, e, h1, h2, _⟩ := h
  simp only [Value.slice.injEq] at e
  obtain ⟨rfl, rfl, rfl⟩ := e
  exact ⟨rfl, h1, h2⟩
theorem CIn.cells {α : Type} [Inhabited α] {E : α → Value} {w : World} {ao : Option Addr} {m cap : Nat} {L : List α} (h : CIn E w (.slice ao m cap) L) : ∀ i, i < L.length → ∃ b o, ao = some ⟨b, o, none⟩ ∧ w.cell? ⟨b, o + i, none⟩ = some (E (L.getD i default)) := by
  obtain ⟨_, _, e, h1, h2, h3⟩ := h
  simp only [Value.slice.injEq] at e
  obtain ⟨rfl, rfl, rfl⟩ := e
  exact h3
theorem cIn_nil {α : Type} [Inhabited α] {E : α → Value} {w : World} : CIn E w (.slice none 0 0) ([] : List α) := ⟨none, 0, rfl, Nat.le_refl _, Nat.zero_le _, fun i hi => by simp at hi⟩
theorem Try.infoStr : (Try.prog.info? 9).map (fun i => (i.zero, i.size, i.bytes)) = some (some (.string ⟨#[]⟩), 1, 16) := by kernel_rfl

set_option maxHeartbeats 800000 in
theorem szStringS_any (v : Value) (L : List ByteArray) (left : Int) (w : World) (h : SIn w v L) (hT : ∀ i, i < L.length → (L.getD i default).size ≤ maxLen) (h0 : 0 ≤ left) (h1 : left ≤ 1048576) :
    Calls Try.prog 46 #[v, .int .i64 left] w fun e w' => ∃ r, e = .returned (.int .i64 r) ∧ SizedL L.length r ∧ Below w.heap.size w w' := by
  obtain ⟨ao, cap, rfl, hl, hm, hc⟩ := h
  unfold maxLen at hm
  have HC := hide hc
  have HTX := hide hT
  clear hc hT
  by_cases hlt : left < L.length
  · go_enter Try.func46, Try.ntmps46
    go_wp2
    go_ret
    exact ⟨_, rfl, ⟨by omega, by omega, fun h => by omega⟩, Below.refl _ _⟩
  · have hL : L.length ≤ 1048576 := by omega
    go_enter Try.func46, Try.ntmps46
    go_wp2
    go_loopg [1, 5] L.length (fun g lv iv wr => ∃ k : Nat, k ≤ L.length ∧ g = L.length - k ∧ iv = .int .i64 k ∧ (∃ l : Int, lv = .int .i64 l ∧ 0 ≤ l ∧ l ≤ 1048576) ∧ wr = w)
    case atStart => exact ⟨0, Nat.zero_le _, rfl, rfl, ⟨_, rfl, by omega, by omega⟩, rfl⟩
    case round =>
      obtain ⟨k, hk, rfl, rfl, ⟨l, rfl, hl0, hl1⟩, rfl⟩ := hrel
      by_cases hkn : k < L.length
      · obtain ⟨b, o, rfl, hcell⟩ := unhide HC k hkn
        have hts := unhide HTX k hkn
        generalize L.getD k default = s at *
        unfold maxLen at hts
        obtain ⟨m, em⟩ : ∃ m : Nat, s.size = m := ⟨_, rfl⟩
        rw [em] at hts
        have q : IntKind.i64.wrap (l - (m : Int)) = l - (m : Int) := by rw [IntKind.wrap_i64]; omega
        have hki : (k : Int) < L.length := by omega
        by_cases hr : l - (m : Int) < 0
        · go_wp2
          go_ret
          exact ⟨_, rfl, ⟨by omega, by omega, fun h => by omega⟩, Below.refl _ _⟩
        · go_wp2
          go_roundg (L.length - (k + 1))
          case measure => omega
          case rel => exact ⟨k + 1, by omega, rfl, by go_num, ⟨_, rfl, by omega, by omega⟩, rfl⟩
      · have hki : ¬ (k : Int) < L.length := by omega
        go_wp2
        go_ret
        exact ⟨_, rfl, ⟨by omega, by omega, fun _ => hL⟩, Below.refl _ _⟩

/-- A new row of texts, the first k of them filled. -/
def FilSt (w wr : World) (L : List ByteArray) (k : Nat) : Prop := FillC 1 (fun s _ => Value.string s) w wr L k
theorem FilSt.done {w wr : World} {L : List ByteArray} (h : FilSt w wr L L.length) : OwnV wr w.heap.size (strs L) := by
  have h' := FillC.done (n := 1) (by rw [Nat.mul_one]; exact h)
  rwa [show recCells 1 (fun s _ => Value.string s) L = strs L from ?_] at h'
  apply List.ext_getElem?
  intro i
  by_cases hi : i < L.length
  · have e := recCells_get (n := 1) (enc := fun (s : ByteArray) _ => Value.string s) hi (j := 0) (by omega)
    rw [Nat.mul_one, Nat.add_zero] at e
    rw [e, strs, map_get L hi]
  · rw [List.getElem?_eq_none (by rw [recCells_length]; omega), List.getElem?_eq_none (by simp; omega)]

set_option maxHeartbeats 800000 in
theorem toStringS_o (v : Value) (L : List ByteArray) (w : World) (h : SIn w v L) (hs : L.length ≤ 1048576) :
    Calls Try.prog 48 #[v] w fun e w' => ∃ g, e = .returned (.slice (some ⟨g, 0, none⟩) L.length L.length) ∧ w.heap.size ≤ g ∧ OwnV w' g (strs L) ∧ Below w.heap.size w w' := by
  obtain ⟨ao, cap, rfl, hlc, hm, hc⟩ := h
  clear hlc hm
  have HC := hide hc
  clear hc
  have hmk := run_make_recs (P := Try.prog) 34 9 _ 1 16 Try.underlying34 Try.infoStr .i64 .i64 L.length (by omega) (by omega)
  go_enter Try.func48, Try.ntmps48
  go_wp2
  clear hmk
  go_loopg [4] L.length (fun g i wr => ∃ k : Nat, k ≤ L.length ∧ g = L.length - k ∧ i = .int .i64 k ∧ FilSt w wr L k)
  case atStart =>
    have st : ∀ z t, FilSt w (w.alloc (.cells (madeCells z L.length) t)) L 0 := fun z t => by
      have := FillC.start (n := 1) (enc := fun (s : ByteArray) _ => Value.string s) w L z t
      rw [Nat.mul_one] at this
      exact this
    exact ⟨0, Nat.zero_le _, rfl, rfl, st _ _⟩
  case round =>
    obtain ⟨k, hk, rfl, rfl, hF⟩ := hrel
    by_cases hkn : k < L.length
    · obtain ⟨b, o, rfl, hcell⟩ := unhide HC k hkn
      have g0 := (hF.1.cell (lt_of_cell hcell)).trans hcell
      have hf := FillC.frozen hF
      obtain ⟨u0, hu0⟩ := FillC.cell hF (q := k) (by omega)
      have HF1 := hide (FillC.set hF (v := .string (L.getD k default)) (by omega) (by rw [Nat.div_one]))
      have hki : (k : Int) < L.length := by omega
      clear hF hcell
      generalize L.getD k default = z at g0 HF1
      go_wp2
      go_roundg (L.length - (k + 1))
      case measure => omega
      case rel => exact ⟨k + 1, by omega, rfl, by go_num, unhide HF1⟩
    · have hkk : k = L.length := by omega
      subst hkk
      go_wp2
      go_ret
      exact ⟨_, rfl, Nat.le_refl _, hF.done, hF.1⟩

set_option maxHeartbeats 400000 in
theorem eqStringS_o (v v' : Value) (M : List ByteArray) (w : World) (h : SIn w v M) (h' : SIn w v' M) :
    Calls Try.prog 51 #[v, v'] w fun e w' => e = .returned (.bool true) ∧ Below w.heap.size w w' := by
  obtain ⟨ao, cap, rfl, hl, hm, hc⟩ := h
  obtain ⟨ao', cap', rfl, _, _, hc'⟩ := h'
  unfold maxLen at hm
  have HC := hide hc
  have HC' := hide hc'
  clear hc hc'
  go_enter Try.func51, Try.ntmps51
  go_wp2
  go_loopg [5] M.length (fun g i wr => ∃ q, wr = w.drewN q ∧ ∃ k : Nat, k ≤ M.length ∧ g = M.length - k ∧ i = .int .i64 k)
  case atStart => exact ⟨0, rfl, 0, Nat.zero_le _, rfl, rfl⟩
  case round =>
    obtain ⟨q, hq, k, hk, rfl, rfl⟩ := hrel
    by_cases hkn : k < M.length
    · obtain ⟨b, o, rfl, hcell⟩ := unhide HC k hkn
      obtain ⟨b', o', rfl, hcell'⟩ := unhide HC' k hkn
      generalize M.getD k default = x at *
      have c0 : wr.cell? ⟨b, o + k, none⟩ = some (.string x) := by rw [hq]; exact hcell
      have c1 : wr.cell? ⟨b', o' + k, none⟩ = some (.string x) := by rw [hq]; exact hcell'
      have HQ := hide hq
      have hki : (k : Int) < M.length := by omega
      clear hq hcell hcell'
      go_wp2
      first | done | (go_quiet (fail); go_wp2) | skip
      go_roundg (M.length - (k + 1))
      case measure => omega
      case rel => exact ⟨_, by rw [unhide HQ]; exact World.drewN_drewN _ _ _, k + 1, by omega, rfl, by go_num⟩
    · subst hq
      go_wp2
      go_ret
      exact ⟨rfl, below_drewN (Below.refl _ _) _⟩

/-- The marks of n texts, from k on. -/
def sMark (k : Int) (i : Nat) : ByteArray := mt (k + (i : Int))
abbrev sMarks (k : Int) (n : Nat) : List ByteArray := marksL (sMark k) n

set_option maxRecDepth 10000 in
set_option maxHeartbeats 1600000 in
theorem markStr_any (g cap : Nat) (L : List ByteArray) (k : Int) (w : World) (h : OwnV w g (strs L)) (hn : L.length ≤ 1048576) (hk0 : 0 ≤ k) (hk1 : k ≤ 2305843009213693952) :
    Calls Try.prog 73 #[.slice (some ⟨g, 0, none⟩) L.length cap, .int .i64 k] w fun e w' => e = .returned (.int .i64 (k + (L.length : Int))) ∧ Kept (fun b => b = g) w w' ∧ OwnV w' g (strs (sMarks k L.length)) := by
  have HM0 := hide h
  clear h
  go_enter Try.func73, Try.ntmps73
  go_wp2
  go_loopg [1, 5] L.length (fun gh kv iv wr => ∃ j : Nat, j ≤ L.length ∧ gh = L.length - j ∧ iv = .int .i64 j ∧ kv = .int .i64 (k + (j : Int)) ∧ Kept (fun b => b = g) w wr ∧ OwnV wr g ((midL (sMark k) L j).map Value.string))
  case atStart => exact ⟨0, Nat.zero_le _, rfl, rfl, by congr 1; omega, Kept.refl _ _, by rw [midL_zero]; exact unhide HM0⟩
  case round =>
    obtain ⟨j, hj, rfl, rfl, rfl, hK, hM⟩ := hrel
    clear HM0
    by_cases hjn : j < L.length
    · have HM := hide hM
      have HK := hide hK
      have HTX := hide fun V => markText_any (k + (j : Int)) V (by omega)
      have hji : (j : Int) < L.length := by omega
      clear hM hK
      go_wp2_with fail
      refine (unhide HTX _).mono ?_
      rintro e w1 ⟨rfl, hb⟩
      have hM := (unhide HM).step hb
      have HK1 := hide ((unhide HK).trans (kept_of_below hb))
      have hf := hM.frozen
      have hu0 := hM.cell (map_get (E := Value.string) (midL (sMark k) L j) (i := j) (by rw [midL_len]; exact hjn))
      have hN := hM.set j (.string (sMark k j)) (by rw [List.length_map, midL_len]; exact hjn)
      rw [← List.map_set, midL_step] at hN
      have HN := hide hN
      clear hM hb hN HM HK HTX
      unfold sMark at HN
      generalize (midL (sMark k) L j).getD j default = z0 at *
      generalize hz : mt (k + (j : Int)) = z1 at *
      go_wp2
      go_roundg (L.length - (j + 1))
      case measure => omega
      case rel => exact ⟨j + 1, by omega, rfl, by go_num, by congr 1; omega, (unhide HK1).setCell (p := ⟨g, j, none⟩) rfl _, unhide HN⟩
    · have hjj : j = L.length := by omega
      subst hjj
      go_wp2
      go_ret
      exact ⟨rfl, hK, by rw [strs, sMarks, ← midL_done]; exact hM⟩

set_option maxRecDepth 10000 in
set_option maxHeartbeats 1600000 in
theorem heldStr_any (v : Value) (n : Nat) (k : Int) (W : World) (hW : SIn W v (sMarks k n)) (hn : n ≤ 1048576) (hk0 : 0 ≤ k) (hk1 : k ≤ 2305843009213693952) :
    Calls Try.prog 74 #[v, .int .i64 k] W fun e w' => e = .returned (.int .i64 (k + (n : Int))) ∧ Below W.heap.size W w' := by
  obtain ⟨ao, cap, rfl, hl, hm, hc⟩ := hW
  have HC := hide hc
  clear hc
  rw [marksL_len] at HC hl ⊢
  unfold maxLen at hm
  go_enter Try.func74, Try.ntmps74
  go_wp2
  go_loopg [1, 5] n (fun gh kv iv wr => Below W.heap.size W wr ∧ ∃ j : Nat, j ≤ n ∧ gh = n - j ∧ iv = .int .i64 j ∧ kv = .int .i64 (k + (j : Int)))
  case atStart => exact ⟨Below.refl _ _, 0, Nat.zero_le _, rfl, rfl, by congr 1; omega⟩
  case round =>
    obtain ⟨hB, j, hj, rfl, rfl, rfl⟩ := hrel
    by_cases hjn : j < n
    · obtain ⟨b, o, rfl, hcell⟩ := unhide HC j hjn
      rw [marksL_get (sMark k) hjn] at hcell
      unfold sMark at hcell
      have c0 := fun x' : Gr wr => gr_cell (wcell3 hcell hB) x'
      have hji : (j : Int) < n := by omega
      have HTX := hide fun x' : Gr wr => markText_any (k + (j : Int)) x'.val (by omega)
      have HB := hide hB
      have gsome := gr_some wr
      clear hB hcell
      generalize mt (k + (j : Int)) = z at *
      go_wp2
      refine wp_region_grown (by kernel_rfl) (by kernel_rfl) ?_
      repeat (go_big_quiet_step (fail))
      go_big_quiet_want
      go_big_quiet_op
      go_big_quiet_call (exact calls_grown (unhide HTX _))
      repeat (go_big_quiet_step (fail))
      refine wpQuiet_nil ?_
      intro w1 hw1
      obtain ⟨z', hz⟩ := hw1
      have hb1 : Below wr.heap.size wr w1 := hz ▸ z'.ok
      clear hz gsome
      go_wp2
      go_roundg (n - (j + 1))
      case measure => omega
      case rel => exact ⟨Below.step (unhide HB) hb1, j + 1, by omega, rfl, by go_num, by congr 1; omega⟩
    · have hjj : j = n := by omega
      subst hjj
      go_wp2
      go_ret
      exact ⟨rfl, hB⟩

end Go.Proofs.Ytjpogaidcmndoaa

/- Contract of the specification's WindowsOf, its walk. -/
import Derived.Test.YtglehiakikhlaaaTdE
namespace Go.Proofs.Ytglehiakikhlaaa
open Go.RowKit

theorem ownsRow_set2 {w : World} {base : Nat} {e : TypeId} {g m cap : Nat} {xs : List Value} (h : w.ownsRow base e 2 (.slice (some ⟨g, 0, none⟩) m cap) m xs) (j : Nat) (u : Value) :
    (w.setCell ⟨g, j, none⟩ u).ownsRow base e 2 (.slice (some ⟨g, 0, none⟩) m cap) m (xs.set j u) := by
  obtain ⟨h1, h2⟩ := h
  refine ⟨by rw [List.length_set]; exact h1, ?_⟩
  rcases h2 with ⟨hv, _⟩ | ⟨g', cap', cur, hv, hg, hh, hc, hm, hs, ht⟩
  · cases hv
  · simp only [Value.slice.injEq, Option.some.injEq, Addr.mk.injEq, and_true, true_and] at hv
    obtain ⟨rfl, rfl⟩ := hv
    refine Or.inr ⟨g, cap, cur.setIfInBounds j u, rfl, hg, by simp [World.setCell, Array.getElem?_modify, hh], hc, hm, by simpa using hs, ?_⟩
    rw [← ht]
    simp [List.take_set]

/-- The last window's end is set. -/
theorem GrowW.last {w A : World} {g cap : Nat} {L : List I2} {x : Int} (h : GrowW w A (.slice (some ⟨g, 0, none⟩) L.length cap) L) {j : Nat} (hj : j < L.length) (y : Int) :
    GrowW w ((A.setCell ⟨g, j * 2, none⟩ (.int .i64 x)).setCell ⟨g, j * 2 + 1, none⟩ (.int .i64 y)) (.slice (some ⟨g, 0, none⟩) L.length cap) (L.set j (x, y)) := by
  have hg : w.heap.size ≤ g := (h.row.lt g rfl).1
  refine ⟨?_, (h.below.setCell (p := ⟨g, j * 2, none⟩) hg _).setCell (p := ⟨g, j * 2 + 1, none⟩) hg _, ⟨g, cap, by simp⟩⟩
  have := ownsRow_set2 (ownsRow_set2 h.row (j * 2) (.int .i64 x)) (j * 2 + 1) (.int .i64 y)
  rw [recI2_set L hj (x, y)] at this
  rw [List.length_set]
  exact this

theorem GrowW.cells {w A : World} {g cap : Nat} {L : List I2} (h : GrowW w A (.slice (some ⟨g, 0, none⟩) L.length cap) L) {j : Nat} (hj : j < L.length) :
    A.cell? ⟨g, j * 2, none⟩ = some (.int .i64 (L.getD j default).1) ∧ A.cell? ⟨g, j * 2 + 1, none⟩ = some (.int .i64 (L.getD j default).2) ∧ ∀ q, A.frozen? ⟨g, q, none⟩ = false := by
  have c0 := h.row.cells (g := g) rfl (j * 2) _ (by have := recCells_get (n := 2) (enc := e2) (L := L) (i := j) (j := 0) hj (by omega); rwa [Nat.add_zero] at this)
  have c1 := h.row.cells (g := g) rfl (j * 2 + 1) _ (recCells_get (n := 2) (enc := e2) (L := L) (i := j) (j := 1) hj (by omega))
  rw [Go.WideShapes.add_plain, Nat.zero_add] at c0 c1
  refine ⟨c0, c1, fun q => ?_⟩
  rcases h.row.2 with ⟨hv, _⟩ | ⟨g', cap', cur, hv, hg, hh, _⟩
  · cases hv
  · simp only [Value.slice.injEq, Option.some.injEq, Addr.mk.injEq, and_true, true_and] at hv
    obtain ⟨rfl, rfl⟩ := hv
    simp [World.frozen?, hh]

set_option maxRecDepth 10000 in
set_option maxHeartbeats 8000000 in
theorem specWindowsOf_any (v : Value) (xs : List Nat) (need : Nat) (w : World) (h : FlIn w v xs) :
    Calls Try.prog 31 #[v, .float .f64 need] w fun e w' => ∃ a n cp, e = .returned (.slice a n cp) ∧ OwnWi w.heap.size w' (.slice a n cp) (windowsOf xs need) ∧ Below w.heap.size w w' := by
  obtain ⟨ao, cap, rfl, hl, hm, hc⟩ := h
  unfold maxLen at hm
  have HC := hide hc
  clear hc
  have HG0 := hide (growW_new w w (Below.refl _ _))
  obtain ⟨i0, hi, hz0, hz1, hz2⟩ := info_parts Try.infoWindow
  by_cases h1500 : xs.length ≤ 1500
  · have HD : Hid (windowsOf xs need = (winTo (deepAt xs need) xs.length).L) := by show _ = _; rw [windowsOf, if_pos h1500]
    have h15 : (xs.length : Int) ≤ 1500 := by omega
    go_enter Try.func31, Try.ntmps31
    go_wp2
    go_loopg [5, 6, 7] xs.length (fun g ov op i wr => ∃ k : Nat, k ≤ xs.length ∧ g = xs.length - k ∧ i = .int .i64 k ∧ op = .bool (winTo (deepAt xs need) k).o ∧ GrowW w wr ov (winTo (deepAt xs need) k).L)
    case atStart => exact ⟨0, Nat.zero_le _, rfl, rfl, rfl, unhide HG0⟩
    case round =>
      obtain ⟨k, hk, rfl, rfl, rfl, hG⟩ := hrel
      obtain ⟨g, c, rfl⟩ := hG.fv
      have HG := hide hG
      have hsz := hG.below.size
      obtain ⟨hL1, hL2⟩ := winTo_inv (deepAt xs need) k
      clear hG HG0
      by_cases hkn : k < xs.length
      · obtain ⟨b, o, rfl, hcell⟩ := unhide HC k hkn
        have g0 := ((unhide HG).below.cell (lt_of_cell hcell)).trans hcell
        have ES : Hid (winTo (deepAt xs need) (k + 1) = (winTo (deepAt xs need) k).step k (geF (xs.getD k 0) need)) := rfl
        have hki : (k : Int) < xs.length := by omega
        clear hcell
        generalize xs.getD k 0 = x at *
        generalize winTo (deepAt xs need) k = s at *
        obtain ⟨L, op⟩ := s
        dsimp only at HG hL1 hL2 ⊢
        cases hge : geF x need with
        | false =>
          rw [hge] at ES
          unfold geF at hge
          go_wp2
          go_roundg (xs.length - (k + 1))
          case measure => omega
          case rel => exact ⟨k + 1, by omega, rfl, by go_num, by rw [unhide ES]; simp [WS.step], by rw [unhide ES]; simpa [WS.step] using unhide HG⟩
        | true =>
          rw [hge] at ES
          unfold geF at hge
          cases op with
          | true =>
            have hLp := hL2 rfl
            obtain ⟨j, ej⟩ : ∃ j, j = L.length - 1 := ⟨_, rfl⟩
            have hjl : j < L.length := by omega
            obtain ⟨c0, c1, cf⟩ := (unhide HG).cells hjl
            have q1 : IntKind.i64.wrap ((L.length : Int) - 1) = (j : Int) := by rw [IntKind.wrap_i64]; omega
            have hji : (j : Int) < L.length := by omega
            have HN := hide (GrowW.last (x := (L.getD j default).1) (unhide HG) hjl (k : Int))
            have EW : Hid ((WS.mk L true).last k = L.set j ((L.getD j default).1, (k : Int))) := by show _ = _; rw [ej]; rfl
            generalize (L.getD j default).1 = xf at *
            generalize (L.getD j default).2 = xt at *
            have HLL := hide ej
            clear ej
            generalize hnn : L.length = ln at *
            go_wp2
            go_roundg (xs.length - (k + 1))
            case measure => omega
            case rel => exact ⟨k + 1, by omega, rfl, by go_num, by rw [unhide ES]; simp [WS.step], by rw [unhide ES]; simp only [WS.step, if_true]; rw [unhide EW]; exact unhide HN⟩
          | false =>
            clear hL2
            have HR1 := hide (ownsRow_below (unhide HG).row (Below.alloc1 wr (.cells #[.int .i64 k, .int .i64 k] 32)))
            go_wp2_with (at_builtin; refine wpList_append_lies _ rfl _ _ 28 rfl w.heap.size 32 i0 _ 2 16 Try.underlying28 hi hz0 hz1 hz2 rfl (by decide) _ L.length _ rfl (unhide HR1) ⟨wr.heap.size, 0, none⟩ 1 1 [.int .i64 k, .int .i64 k] rfl rfl (cell_two_new _ _ _ _) (by simp [Value.oneCell']) (by omega) (by unfold maxLen; omega) (by omega) (by simp; omega) _ rfl ?_; intro g4 cap4 wa hown hgrow hat hlt; have HWa := hide (((unhide HG).below.alloc (by omega) (.cells #[.int .i64 k, .int .i64 k] 32)).grown hgrow (by simp; omega) (fun g hg => ((unhide HG).row.lt g hg).1)); have HOW := hide hown; clear hown hgrow hat)
            go_roundg (xs.length - (k + 1))
            case measure => omega
            case rel =>
              refine ⟨k + 1, by omega, rfl, by go_num, by rw [unhide ES]; simp [WS.step], ?_⟩
              rw [unhide ES]
              simp only [WS.step, if_true]
              exact GrowW.next (unhide HOW) (unhide HWa)
      · have hkk : k = xs.length := by omega
        have HO := hide (unhide HG).done
        have HB := hide (unhide HG).below
        rw [hkk, ← unhide HD] at HO
        rw [hkk, ← unhide HD]
        clear HG hL1 hL2
        generalize (windowsOf xs need).length = ln at *
        generalize (winTo (deepAt xs need) xs.length).o = op at *
        go_wp2
        go_ret
        exact ⟨_, _, _, rfl, unhide HO, unhide HB⟩
  · have HD : Hid (windowsOf xs need = []) := by show _ = _; rw [windowsOf, if_neg h1500]
    have h15 : (1500 : Int) < xs.length := by omega
    have HO := hide (unhide HG0).done
    have HB := hide (unhide HG0).below
    clear HG0
    go_enter Try.func31, Try.ntmps31
    go_wp2
    go_ret
    exact ⟨_, _, _, rfl, by rw [unhide HD]; exact unhide HO, unhide HB⟩

end Go.Proofs.Ytglehiakikhlaaa

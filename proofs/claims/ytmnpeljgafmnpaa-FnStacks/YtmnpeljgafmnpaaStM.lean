/- Stacks in numbers: a stack without its topmost box; more wind; no wind. DrawStackOk. Written by wip/mkst.py. No statement about the program stands here. -/
import Derived.Test.YtmnpeljgafmnpaaDsC
import Derived.Test.YtmnpeljgafmnpaaBxI
namespace Go.Proofs.Ytmnpeljgafmnpaa
open Go.RowKit

theorem take_getD (L : List BoxT) {m k : Nat} (hk : k < m) (_hm : m ≤ L.length) : (L.take m).getD k default = L.getD k default := by
  simp [List.getD, hk]
theorem good_take {L : List BoxT} {m k : Nat} (hk : k < m) (hm : m ≤ L.length) (h : stGood L k) : stGood (L.take m) k := by
  obtain ⟨h1, h2, h3⟩ := h
  refine ⟨?_, fun h0 => ?_, fun hc => ?_⟩
  · unfold okO at *; rw [take_getD L hk hm]; exact h1
  · have := h2 h0
    unfold wtO at *
    rw [take_getD L hk hm, take_getD L (by omega) hm]
    exact this
  · unfold coO at *
    rw [take_getD L hk hm] at hc
    exact h3 hc
theorem sum_take (L : List BoxT) {m : Nat} (hm : m ≤ L.length) : ∀ k, k ≤ m → sumTo (wtO (L.take m)) k = sumTo (wtO L) k
  | 0, _ => rfl
  | k + 1, hk => by
    rw [sumTo, sumTo, sum_take L hm k (by omega)]
    unfold wtO
    rw [take_getD L (by omega) hm]
theorem stack_top {L : List BoxT} {most : Int} {m : Nat} (hl : L.length = m + 1) (h : stackB L most = true) : stackB (L.take m) most = true := by
  simp only [stackB, stk2, Bool.and_eq_true, decide_eq_true_eq] at h ⊢
  obtain ⟨⟨⟨h1, h2⟩, h3⟩, h4⟩ := h
  have hle : m ≤ L.length := by omega
  have hlt : (L.take m).length = m := by rw [List.length_take]; omega
  rw [hlt, sum_take L hle m (Nat.le_refl _)]
  refine ⟨⟨⟨by omega, fun k hk => good_take hk hle (h2 k (by omega))⟩, h3⟩, ?_⟩
  rw [hl, sumTo] at h4
  have := okO_wt (h2 m (by omega)).1
  omega
theorem needV_mono {f f' : Int} (h : f ≤ f') : needV f ≤ needV f' := by
  unfold needV
  split <;> split <;> omega
theorem sumTo_mono {f f' : Nat → Int} {n : Nat} (h : ∀ k, k < n → f k ≤ f' k) : ∀ k, k ≤ n → sumTo f k ≤ sumTo f' k
  | 0, _ => Int.le_refl _
  | k + 1, hk => by
    have := sumTo_mono h k (by omega)
    have := h k (by omega)
    rw [sumTo, sumTo]
    omega
theorem lash_mono {L : List BoxT} {a b : Int} (h : a ≤ b) : lashV L a ≤ lashV L b := by
  unfold lashV
  refine sumTo_mono (n := L.length) (fun k hk => ?_) _ (Nat.le_refl _)
  unfold lashK
  have : 100 * a * ((L.length : Int) - (k : Int)) ≤ 100 * b * ((L.length : Int) - (k : Int)) := Int.mul_le_mul_of_nonneg_right (by omega) (by omega)
  exact needV_mono (by omega)
theorem lashB_in {L : List BoxT} {a : Int} (h0 : 0 ≤ a) (h1 : a ≤ 100) : lashB L a = stk1 L := by rw [lashB, inB_mk h0 h1, Bool.and_true]
theorem lashC_mono {L : List BoxT} {a b : Int} (h0 : 0 ≤ a) (h : a ≤ b) (h1 : b ≤ 100) : lashC L a ≤ lashC L b := by
  unfold lashC
  rw [lashB_in h0 (by omega), lashB_in (by omega) h1]
  split
  · exact lash_mono h
  · exact Int.le_refl _
theorem sumTo_zero {f : Nat → Int} {n : Nat} (h : ∀ k, k < n → f k = 0) : ∀ k, k ≤ n → sumTo f k = 0
  | 0, _ => rfl
  | k + 1, hk => by
    have := sumTo_zero h k (by omega)
    have := h k (by omega)
    rw [sumTo]
    omega
theorem lash_calm (L : List BoxT) : lashC L 0 = 0 := by
  unfold lashC
  split
  next h =>
    rw [lashB_in (by omega) (by omega)] at h
    obtain ⟨h1, h2⟩ := stk1_len h
    unfold lashV
    refine sumTo_zero (n := L.length) (fun k hk => ?_) _ (Nat.le_refl _)
    have := sumW_bd h2 h1 (k + 1) (by omega)
    unfold lashK needV
    rw [if_pos (by omega)]
  next => rfl
theorem take_boxes {w : World} {b o n cap m : Nat} {L : List BoxT} (h : RBox w (.slice (some ⟨b, o, none⟩) n cap) L) (hm : m ≤ n) : RBox w (.slice (some ⟨b, o, none⟩) m cap) (L.take m) := by
  obtain ⟨ao, cap', e, hl, hc, hx⟩ := h
  simp only [Value.slice.injEq] at e
  obtain ⟨rfl, rfl, rfl⟩ := e
  have e2 : (L.take m).length = m := by rw [List.length_take]; omega
  refine ⟨_, cap, by rw [e2], by omega, hc, fun i hi => ?_⟩
  rw [e2] at hi
  obtain ⟨b', o', e3, hj⟩ := hx i (by omega)
  refine ⟨b', o', e3, fun j hj6 => ?_⟩
  rw [take_getD L hi (by omega)]
  exact hj j hj6
def oneBox : BoxT := (⟨#[67, 83, 81, 85, 51, 48, 53, 52, 51, 56, 51]⟩, 10, 0, false, 0, 1)
set_option maxRecDepth 100000 in
theorem one_two : lashC [oneBox] 10 = 2 := by decide +kernel

set_option maxRecDepth 10000 in
set_option maxHeartbeats 6400000 in
theorem drawStackOk_any (v : Value) (n : Nat) (w : World) (h : BytesIn w.heap.size w v n) (hn : n ≤ 1048576) :
    Calls Try.prog 17 #[v] w fun e w' => ∃ g m cap L most, e = .returned (.tuple #[.slice (some ⟨g, 0, none⟩) m cap, .int .i64 most]) ∧ OBx w.heap.size w' g m cap L ∧ m ≤ 30 ∧ Below w.heap.size w w' := by
  have HN := hide (l1New_any v n w h hn)
  have HS := hide fun W (hW : Cur W w.heap.size v n) => l11DrawStack_any w.heap.size n v W hW hn
  have HP := hide fun W (hW : Cur W w.heap.size v n) g m xs => l1PickInt_any w.heap.size n v g m xs W hW hn
  clear h
  go_enter Try.func17, Try.ntmps17
  go_wp2_with fail
  refine (unhide HN).mono ?_
  rintro e w1 ⟨rfl, hc, hb, hs⟩
  have HC := hide hc
  have HW := hide hb
  have hs1 : w.heap.size ≤ w1.heap.size := hb.size
  have hs2 : w.heap.size < w1.heap.size := by omega
  clear hc hb hs HN
  go_wp2_with fail
  refine (unhide HS _ (unhide HC)).mono ?_
  rintro e w2 ⟨g, m, cap, L, rfl, hL, hm, hc, hk⟩
  have hLp := hL.parts
  replace HC := hide hc
  replace HW := hide ((unhide HW).trans (hk.below (B := w.heap.size) hs1 (fun k h => by omega)))
  have hcl := hc.lt
  have hA := Below.alloc1 w2 (.cells #[.int .i64 500, .int .i64 300, .int .i64 100, .int .i64 1000000, .int .i64 1000001, .int .i64 (-1), .int .i64 0] 3)
  have HY : Hid (OwnV (w2.alloc (.cells #[.int .i64 500, .int .i64 300, .int .i64 100, .int .i64 1000000, .int .i64 1000001, .int .i64 (-1), .int .i64 0] 3)) w2.heap.size (ints [500, 300, 100, 1000000, 1000001, -1, 0])) := ownV_alloc w2 #[.int .i64 500, .int .i64 300, .int .i64 100, .int .i64 1000000, .int .i64 1000001, .int .i64 (-1), .int .i64 0] 3
  replace HC := hide ((unhide HC).below hA)
  have HL := hide (hL.below hA)
  replace HW := hide ((unhide HW).alloc (by have := (unhide HW).size; omega) (.cells #[.int .i64 500, .int .i64 300, .int .i64 100, .int .i64 1000000, .int .i64 1000001, .int .i64 (-1), .int .i64 0] 3))
  have hg1 := hLp.1
  have hw2 := (unhide HW).size
  clear hc hk hA hL hLp HS
  go_wp2_with fail
  refine (unhide HP _ (unhide HC) _ 7 _ (unhide HY) (by omega) rfl (by omega) (by omega)).mono ?_
  rintro e w3 ⟨y, rfl, hc, hk⟩
  have HL3 := hide ((unhide HL).kept hk (by omega))
  have HW3 := hide ((unhide HW).trans (hk.below (B := w.heap.size) hw2 (fun k h => by omega)))
  clear hc hk HP HY HC HL HW
  go_wp2
  refine bodyPost_ret (v := .tuple #[.slice (some ⟨g, 0, none⟩) m cap, .int .i64 y]) (by simp [results, Try.results17, go_sem]) rfl ⟨g, m, cap, L, y, rfl, ?_, hm, unhide HW3⟩
  obtain ⟨h1, h2⟩ := unhide HL3
  refine ⟨h1, ?_⟩
  rcases h2 with h2 | ⟨g', cap', cur, hv, hg', r⟩
  · exact Or.inl h2
  · exact Or.inr ⟨g', cap', cur, hv, by omega, r⟩

end Go.Proofs.Ytmnpeljgafmnpaa

/- FnHoled's parts: a byte of the law's own, told once for all later worlds; what one room does to a hull, in numbers. -/
import Derived.Test.YticcjdcglfiggaaStK
import Derived.Test.YticcjdcglfiggaaDrawH3
import Derived.Test.YticcjdcglfiggaaAtBig
namespace Go.Proofs.Yticcjdcglfiggaa
open Go.RowKit

set_option maxHeartbeats 400000 in
theorem at_fix (v : Value) (n : Nat) (k : Nat) (w : World) (h : BytesIn w.heap.size w v n) (hn : n ≤ 1048576) (hk : k ≤ 1000) :
    ∃ y : Int, 0 ≤ y ∧ y ≤ 255 ∧ ∀ W, Below w.heap.size w W → Calls Try.prog 19 #[v, .int .i64 k] W fun e w' => e = .returned (.int .i64 y) ∧ w' = W := by
  obtain ⟨ao, cap, rfl, _, _, hc⟩ := h
  by_cases hkn : k < n
  · have hkn' : (k : Int) < (n : Int) := by omega
    obtain ⟨b, o, y, rfl, hlt, hcell, hy1, hy2⟩ := hc k hkn
    refine ⟨y, hy1, hy2, fun W hW => ?_⟩
    have hcell' := (hW.cell (p := ⟨b, o + k, none⟩) hlt).trans hcell
    clear hc hcell hW
    go_enter Try.func19, Try.ntmps19
    go_wp2
    go_ret
    exact ⟨rfl, rfl⟩
  · have hkn' : (n : Int) ≤ (k : Int) := by omega
    refine ⟨((k : Int) * 7 + n) % 256, by omega, by omega, fun W hW => ?_⟩
    clear hc hW
    go_enter Try.func19, Try.ntmps19
    go_wp2
    go_ret
    exact ⟨rfl, rfl⟩

theorem roomsB_one {step rise : Int} {R : List (List Int)} {a b z : Int} (h : hullOk step rise R = true) (h1 : 0 ≤ a) (h2 : a ≤ b) (h3 : b < R.length) (h4 : 0 ≤ z) (h5 : z ≤ 100) : roomsB step rise R [(a, b, z)] = true := by
  refine roomsB_mk h (by simp) (fun r hr => ?_)
  have : r = 0 := by simpa using hr
  subst this
  simp [roomAt, roomB, h1, h2, h3, inB_mk h4 h5]

theorem permTo_one {a b z : Int} (s : Nat) : permTo [(a, b, z)] s 1 = if inB s a b = true then z else 0 := by simp [permTo]

theorem flood_none {step rise : Int} {R : List (List Int)} {a b : Int} (h : roomsB step rise R [(a, b, 0)] = true) : fStep step rise R [(a, b, 0)] = step ∧ fRise step rise R [(a, b, 0)] = rise ∧ fRows step rise R [(a, b, 0)] = R := by
  refine ⟨by rw [fStep, if_pos h], by rw [fRise, if_pos h], ?_⟩
  rw [fRows, if_pos h]
  refine (dips_congr (Q := fun _ => 0) fun s _ => ?_).trans (dips_none R)
  show permTo [(a, b, 0)] s 1 = 0
  rw [permTo_one]; split <;> rfl

theorem flood_one {step rise : Int} {R : List (List Int)} {L : List I3} (h : roomsB step rise R L = true) : fStep step rise R L = step ∧ fRise step rise R L = rise ∧ fRows step rise R L = dips R (fun s => permTo L s L.length) :=
  ⟨by rw [fStep, if_pos h], by rw [fRise, if_pos h], by rw [fRows, if_pos h]⟩

theorem dip_bd {p x : Int} (h1 : 0 ≤ p) (h2 : p ≤ 100) (h3 : 0 ≤ x) (h4 : x ≤ 50) : 0 ≤ dip p x ∧ dip p x ≤ x := by
  unfold dip
  have m1 := mul_bd (a := x) (b := 100 - p) (A := 50) (B := 100) h3 h4 (by omega) (by omega)
  have m2 : x * (100 - p) ≤ x * 100 := Int.mul_le_mul_of_nonneg_left (by omega) h3
  omega

theorem dips_cell {R : List (List Int)} {P : Nat → Int} {r c : Nat} (hr : r < R.length) (hc : c < (R.getD r []).length) : cellOf (dips R P) r c = dip (P r) (cellOf R r c) := by
  unfold cellOf
  rw [dips_get R P hr, dipRow]
  simp [List.getD]
  rw [List.getElem?_eq_getElem (by simpa [List.getD] using hc)]
  rfl

theorem dips_ok {step rise : Int} {R : List (List Int)} {P : Nat → Int} (h : hullOk step rise R = true) (hP : ∀ s, s < R.length → 0 ≤ P s ∧ P s ≤ 100) : hullOk step rise (dips R P) = true := by
  have hr := hullOk_right h
  refine hullOk_mk (inB_mk hr.step1 hr.step2) (inB_mk hr.rise1 hr.rise2) (by rw [dips_len]; exact inB_mk (by have := hr.len1; omega) (by have := hr.len2; omega)) (fun r hlt => ?_)
  rw [dips_len] at hlt
  have h0 := hr.len1
  rw [dips_get R P (by omega), dips_get R P hlt, dipRow_len]
  refine rowOk_mk (by rw [dipRow_len]; exact hr.even r hlt) (inB_mk (by have := hr.wat1; omega) (by have := hr.wat2; omega)) ?_
  rw [List.all_eq_true]
  intro y hy
  unfold dipRow at hy
  obtain ⟨x, hx, rfl⟩ := List.mem_map.1 hy
  obtain ⟨c, hc, rfl⟩ := List.mem_iff_getElem.1 hx
  have hcc := hr.cells r c hlt (by rw [← hr.even r hlt]; exact hc)
  unfold cellOf at hcc
  rw [getD_lt hc] at hcc
  have := dip_bd (hP r hlt).1 (hP r hlt).2 hcc.1 hcc.2
  exact inB_mk this.1 (by omega)

theorem sumTo_mono {f g : Nat → Int} {n : Nat} (h : ∀ i, i < n → f i ≤ g i) : ∀ k, k ≤ n → sumTo f k ≤ sumTo g k
  | 0, _ => Int.le_refl _
  | k + 1, hk => by
    have h1 := sumTo_mono h k (by omega)
    have h2 := h k (by omega)
    simp only [sumTo]
    omega

theorem volume_dips {step rise : Int} {R : List (List Int)} {P : Nat → Int} (h : hullOk step rise R = true) (hP : ∀ s, s < R.length → 0 ≤ P s ∧ P s ≤ 100) (c : Int) : volume step rise (dips R P) c ≤ volume step rise R c := by
  have hr := hullOk_right h
  have hl := hr.len1
  have e0 : ((dips R P).getD 0 []).length = (R.getD 0 []).length := by rw [dips_get R P (by omega), dipRow_len]
  have ew : waterOk step rise (dips R P) c = waterOk step rise R c := by
    unfold waterOk
    rw [dips_ok h hP, h, e0]
  unfold volume strips
  rw [ew]
  split
  case isFalse => simp [sumL, sumTo]
  case isTrue hw =>
    unfold waterOk at hw
    simp only [Bool.and_eq_true] at hw
    have hc := inB_true hw.2
    rw [dips_len]
    unfold sumL
    simp only [List.length_map, List.length_range]
    refine sumTo_mono (n := R.length - 1) (fun i hi => ?_) _ (Nat.le_refl _)
    have e : ∀ M : List (List Int), ((List.range (R.length - 1)).map (strip2 step rise M c.toNat)).getD i 0 = strip2 step rise M c.toNat i := fun M => by simp [List.getD, hi]
    rw [e, e]
    unfold strip2
    have m1 := mul_bd (a := rise) (b := step) (A := 20) (B := 100) (by have := hr.rise1; omega) hr.rise2 (by have := hr.step1; omega) hr.step2
    refine Int.mul_le_mul_of_nonneg_left ?_ m1.1
    unfold stripH
    refine sumTo_mono (n := c.toNat) (fun k hk => ?_) _ (Nat.le_refl _)
    have cell : ∀ s k, s < R.length → k < (R.getD 0 []).length → cellOf (dips R P) s k ≤ cellOf R s k := fun s k hs hk => by
      rw [dips_cell hs (by rw [hr.even s hs]; exact hk)]
      have hcc := hr.cells s k hs hk
      exact (dip_bd (hP s hs).1 (hP s hs).2 hcc.1 hcc.2).2
    unfold halvesF
    have a1 := cell i k (by omega) (by omega)
    have a2 := cell (i + 1) k (by omega) (by omega)
    have a3 := cell i (k + 1) (by omega) (by omega)
    have a4 := cell (i + 1) (k + 1) (by omega) (by omega)
    omega

theorem rec1_cells (a b c : Int) : recCells 3 e3 [(a, b, c)] = [.int .i64 a, .int .i64 b, .int .i64 c] := by
  simp [recCells, List.range_succ, e3]

end Go.Proofs.Yticcjdcglfiggaa

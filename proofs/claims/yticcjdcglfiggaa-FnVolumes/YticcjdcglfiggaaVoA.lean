/- FnVolumes' parts, in numbers: a mirrored hull's areas, volumes and moments; a volume does not fall with the water line. -/
import Derived.Test.YticcjdcglfiggaaWalkS
import Derived.Test.YticcjdcglfiggaaWalkN
import Derived.Test.YticcjdcglfiggaaWalkO
import Derived.Test.YticcjdcglfiggaaWalkI
namespace Go.Proofs.Yticcjdcglfiggaa
open Go.RowKit

theorem sumTo_congr {f g : Nat → Int} : ∀ n, (∀ i, i < n → f i = g i) → sumTo f n = sumTo g n
  | 0, _ => rfl
  | n + 1, h => by simp only [sumTo]; rw [sumTo_congr n (fun i hi => h i (by omega)), h n (by omega)]

theorem sumTo_front (f : Nat → Int) : ∀ n, sumTo f (n + 1) = f 0 + sumTo (fun i => f (i + 1)) n
  | 0 => by simp [sumTo]
  | n + 1 => by
    have := sumTo_front f n
    simp only [sumTo] at this ⊢
    omega

theorem sumTo_rev (f : Nat → Int) : ∀ n, sumTo (fun i => f (n - 1 - i)) n = sumTo f n
  | 0 => rfl
  | n + 1 => by
    rw [sumTo_front]
    have h := sumTo_rev f n
    simp only [sumTo]
    rw [show n + 1 - 1 - 0 = n by omega]
    have e : sumTo (fun i => f (n + 1 - 1 - (i + 1))) n = sumTo (fun i => f (n - 1 - i)) n := sumTo_congr n (fun i hi => by rw [show n + 1 - 1 - (i + 1) = n - 1 - i by omega])
    rw [e, h]
    omega

theorem sumTo_add (f g : Nat → Int) : ∀ n, sumTo f n + sumTo g n = sumTo (fun i => f i + g i) n
  | 0 => by simp [sumTo]
  | n + 1 => by have := sumTo_add f g n; simp only [sumTo]; omega

theorem sumTo_mul (f : Nat → Int) (K : Int) : ∀ n, sumTo (fun i => f i * K) n = sumTo f n * K
  | 0 => by simp [sumTo]
  | n + 1 => by simp only [sumTo]; rw [sumTo_mul f K n, Int.add_mul]

theorem mirror_cell {R : List (List Int)} {s : Nat} (h : s < R.length) (k : Nat) : cellOf (mirrorR R) s k = cellOf R (R.length - 1 - s) k := by
  unfold cellOf
  rw [mirrorR_get R h]

theorem mirror_ok {step rise : Int} {R : List (List Int)} (h : hullOk step rise R = true) : hullOk step rise (mirrorR R) = true := by
  have hr := hullOk_right h
  have hl := hr.len1
  refine hullOk_mk (inB_mk hr.step1 hr.step2) (inB_mk hr.rise1 hr.rise2) (by rw [mirrorR_len]; exact inB_mk (by omega) (by have := hr.len2; omega)) (fun r hlt => ?_)
  rw [mirrorR_len] at hlt
  rw [mirrorR_get R (by omega), mirrorR_get R hlt, hr.even _ (show R.length - 1 - 0 < R.length by omega)]
  unfold hullOk at h
  simp only [Bool.and_eq_true] at h
  exact all_at (d := []) h.2 (by omega)

theorem mirror_water {step rise : Int} {R : List (List Int)} (h : hullOk step rise R = true) (c : Int) : waterOk step rise (mirrorR R) c = waterOk step rise R c := by
  have hr := hullOk_right h
  have hl := hr.len1
  unfold waterOk
  rw [mirror_ok h, h, mirrorR_get R (by omega), hr.even _ (by omega)]

theorem mirror_plane {step rise : Int} {R : List (List Int)} (h : hullOk step rise R = true) (c : Int) : plane step rise (mirrorR R) c = plane step rise R c := by
  have hl := (hullOk_right h).len1
  unfold plane
  rw [mirror_water h, mirrorR_len]
  split
  · rw [← sumTo_rev (planeF step R c.toNat)]
    refine sumTo_congr _ (fun i hi => ?_)
    unfold planeF
    rw [mirror_cell (by omega), mirror_cell (by omega), show R.length - 1 - 1 - i + 1 = R.length - 1 - i by omega, show R.length - 1 - (i + 1) = R.length - 1 - 1 - i by omega, Int.add_comm]
  · rfl

theorem mirror_inertia {step rise : Int} {R : List (List Int)} (h : hullOk step rise R = true) (c : Int) : inertia step rise (mirrorR R) c = inertia step rise R c := by
  have hl := (hullOk_right h).len1
  unfold inertia
  rw [mirror_water h, mirrorR_len]
  split
  · rw [← sumTo_rev (inerF step R c.toNat)]
    refine sumTo_congr _ (fun i hi => ?_)
    unfold inerF
    rw [mirror_cell (by omega), mirror_cell (by omega), show R.length - 1 - 1 - i + 1 = R.length - 1 - i by omega, show R.length - 1 - (i + 1) = R.length - 1 - 1 - i by omega, Int.add_comm]
  · rfl

theorem mirror_height {step rise : Int} {R : List (List Int)} (h : hullOk step rise R = true) (c : Int) : height step rise (mirrorR R) c = height step rise R c := by
  unfold height
  rw [mirror_water h]
  split
  · refine sumTo_congr _ (fun i _ => ?_)
    unfold heightF
    rw [mirror_plane h, mirror_plane h]
  · rfl

theorem mirror_strip {step rise : Int} {R : List (List Int)} (c : Nat) {s : Nat} (hs : s + 1 < R.length) : strip2 step rise (mirrorR R) c s = strip2 step rise R c (R.length - 1 - 1 - s) := by
  unfold strip2 stripH
  congr 1
  refine sumTo_congr _ (fun k _ => ?_)
  unfold halvesF
  rw [mirror_cell (by omega), mirror_cell (by omega), mirror_cell (by omega), mirror_cell (by omega), show R.length - 1 - 1 - s + 1 = R.length - 1 - s by omega, show R.length - 1 - (s + 1) = R.length - 1 - 1 - s by omega]
  omega

theorem strips_sum {step rise : Int} {R : List (List Int)} {c : Int} (hw : waterOk step rise R c = true) : (strips step rise R c).length = R.length - 1 ∧ (∀ i, i < R.length - 1 → (strips step rise R c).getD i 0 = strip2 step rise R c.toNat i) ∧ volume step rise R c = sumTo (strip2 step rise R c.toNat) (R.length - 1) := by
  have e : strips step rise R c = (List.range (R.length - 1)).map (strip2 step rise R c.toNat) := by rw [strips, if_pos hw]
  have l : (strips step rise R c).length = R.length - 1 := by rw [e]; simp
  have g : ∀ i, i < R.length - 1 → (strips step rise R c).getD i 0 = strip2 step rise R c.toNat i := fun i hi => by rw [e]; simp [List.getD, hi]
  refine ⟨l, g, ?_⟩
  unfold volume sumL
  rw [l]
  exact sumTo_congr _ g

theorem mirror_volume {step rise : Int} {R : List (List Int)} {c : Int} (h : hullOk step rise R = true) (hw : waterOk step rise R c = true) : volume step rise (mirrorR R) c = volume step rise R c := by
  have hl := (hullOk_right h).len1
  rw [(strips_sum (by rw [mirror_water h]; exact hw)).2.2, (strips_sum hw).2.2, mirrorR_len, ← sumTo_rev (strip2 step rise R c.toNat)]
  exact sumTo_congr _ (fun i hi => mirror_strip _ (by omega))

theorem mirror_along {step rise : Int} {R : List (List Int)} {c : Int} (h : hullOk step rise R = true) (hw : waterOk step rise R c = true) : along step rise R c + along step rise (mirrorR R) c = volume step rise R c * step * 2 * ((R.length : Int) - 1) := by
  have hl := (hullOk_right h).len1
  obtain ⟨l1, g1, v1⟩ := strips_sum hw
  obtain ⟨l2, g2, _⟩ := strips_sum (R := mirrorR R) (by rw [mirror_water h]; exact hw)
  rw [mirrorR_len] at l2 g2
  unfold along
  rw [l1, l2, v1]
  rw [sumTo_congr (f := alongF step (strips step rise R c)) (g := fun i => strip2 step rise R c.toNat i * step * (2 * (i : Int) + 1)) _ (fun i hi => by rw [alongF, g1 i hi])]
  obtain ⟨F, hF⟩ : ∃ F : Nat → Int, F = fun j => strip2 step rise R c.toNat j * step * (2 * (((R.length - 1 - 1 - j : Nat)) : Int) + 1) := ⟨_, rfl⟩
  rw [sumTo_congr (f := alongF step (strips step rise (mirrorR R) c)) (g := fun i => F (R.length - 1 - 1 - i)) _ (fun i hi => by
    rw [alongF, g2 i hi, mirror_strip _ (by omega), hF]
    dsimp only
    rw [show R.length - 1 - 1 - (R.length - 1 - 1 - i) = i by omega])]
  rw [sumTo_rev F, sumTo_add]
  rw [sumTo_congr (g := fun i => strip2 step rise R c.toNat i * (step * (2 * ((R.length : Int) - 1)))) _ (fun i hi => by
    rw [hF]
    dsimp only
    rw [← Int.mul_add, show 2 * (i : Int) + 1 + (2 * (((R.length - 1 - 1 - i : Nat)) : Int) + 1) = 2 * ((R.length : Int) - 1) by omega, Int.mul_assoc])]
  rw [sumTo_mul, Int.mul_assoc _ step 2, Int.mul_assoc, Int.mul_assoc step 2]

theorem volume_rises {step rise : Int} {R : List (List Int)} {c : Int} (h : hullOk step rise R = true) (hw : waterOk step rise R c = true) (hc : 0 < c) : volume step rise R (c - 1) ≤ volume step rise R c := by
  have hr := hullOk_right h
  have hw' := hw
  unfold waterOk at hw
  simp only [Bool.and_eq_true] at hw
  have hc2 := inB_true hw.2
  have hw1 : waterOk step rise R (c - 1) = true := by
    unfold waterOk
    rw [h, inB_mk (by omega) (by omega)]; rfl
  rw [(strips_sum hw1).2.2, (strips_sum hw').2.2]
  have m1 := mul_bd (a := rise) (b := step) (A := 20) (B := 100) (by have := hr.rise1; omega) hr.rise2 (by have := hr.step1; omega) hr.step2
  have key : ∀ i, i < R.length - 1 → strip2 step rise R (c - 1).toNat i ≤ strip2 step rise R c.toNat i := fun i hi => by
    unfold strip2
    refine Int.mul_le_mul_of_nonneg_left ?_ m1.1
    unfold stripH
    rw [show c.toNat = (c - 1).toNat + 1 by omega]
    have hb := halvesF_bd hr (s := i) (c := c.toNat) (by omega) (by omega) (c - 1).toNat (by omega)
    simp only [sumTo]
    omega
  have : ∀ k, k ≤ R.length - 1 → sumTo (strip2 step rise R (c - 1).toNat) k ≤ sumTo (strip2 step rise R c.toNat) k := fun k => by
    induction k with
    | zero => intro _; exact Int.le_refl _
    | succ k ih => intro hk; have h1 := ih (by omega); have h2 := key k (by omega); simp only [sumTo]; omega
  exact this _ (Nat.le_refl _)

theorem OwnRowsV.inn {B : Nat} {w : World} {v : Value} {R : List (List Int)} (h : OwnRowsV B w v R) : RowsIn w v R := by
  rcases h with ⟨rfl, rfl⟩ | ⟨g, G, C, cap, rfl, h1, h2, h3⟩
  · exact ⟨none, 0, rfl, Nat.le_refl _, Nat.zero_le _, fun r hr => by simp at hr⟩
  · exact h3.rowsIn h1 h2

theorem rows_nil (w : World) : RowsIn w (.slice none 0 0) [] := ⟨none, 0, rfl, Nat.le_refl _, Nat.zero_le _, fun r hr => by simp at hr⟩

/-- The law's own little hull. -/
theorem rows_lit (W : World) : RowsIn (((W.alloc (.cells #[.int .i64 1, .int .i64 2] 3)).alloc (.cells #[.int .i64 3, .int .i64 4] 3)).alloc (.cells #[.slice (some ⟨W.heap.size, 0, none⟩) 2 2, .slice (some ⟨W.heap.size + 1, 0, none⟩) 2 2] 31))
    (.slice (some ⟨W.heap.size + 1 + 1, 0, none⟩) 2 2) [[1, 2], [3, 4]] := by
  have o0 := OwnV.alloc (OwnV.alloc (ownV_alloc W #[.int .i64 1, .int .i64 2] 3) (.cells #[.int .i64 3, .int .i64 4] 3)) (.cells #[.slice (some ⟨W.heap.size, 0, none⟩) 2 2, .slice (some ⟨W.heap.size + 1, 0, none⟩) 2 2] 31)
  have o1 := OwnV.alloc (ownV_alloc (W.alloc (.cells #[.int .i64 1, .int .i64 2] 3)) #[.int .i64 3, .int .i64 4] 3) (.cells #[.slice (some ⟨W.heap.size, 0, none⟩) 2 2, .slice (some ⟨W.heap.size + 1, 0, none⟩) 2 2] 31)
  have o2 := ownV_alloc ((W.alloc (.cells #[.int .i64 1, .int .i64 2] 3)).alloc (.cells #[.int .i64 3, .int .i64 4] 3)) #[.slice (some ⟨W.heap.size, 0, none⟩) 2 2, .slice (some ⟨W.heap.size + 1, 0, none⟩) 2 2] 31
  simp only [World.size_alloc] at o1 o2
  refine ⟨_, 2, rfl, Nat.le_refl _, by unfold maxLen; omega, fun r hr => ?_⟩
  match r, hr with
  | 0, _ => exact ⟨_, 0, _, rfl, OwnV.cell o2 (i := 0) rfl, OwnV.intsIn (xs := [1, 2]) o0 (Nat.le_refl _) (by show 2 ≤ maxLen; unfold maxLen; omega)⟩
  | 1, _ => exact ⟨_, 0, _, rfl, OwnV.cell o2 (i := 1) rfl, OwnV.intsIn (xs := [3, 4]) o1 (Nat.le_refl _) (by show 2 ≤ maxLen; unfold maxLen; omega)⟩

/-- The same, its rows made the other way round. -/
theorem rows_lit' (W : World) : RowsIn (((W.alloc (.cells #[.int .i64 3, .int .i64 4] 3)).alloc (.cells #[.int .i64 1, .int .i64 2] 3)).alloc (.cells #[.slice (some ⟨W.heap.size + 1, 0, none⟩) 2 2, .slice (some ⟨W.heap.size, 0, none⟩) 2 2] 31))
    (.slice (some ⟨W.heap.size + 1 + 1, 0, none⟩) 2 2) [[1, 2], [3, 4]] := by
  have o0 := OwnV.alloc (OwnV.alloc (ownV_alloc W #[.int .i64 3, .int .i64 4] 3) (.cells #[.int .i64 1, .int .i64 2] 3)) (.cells #[.slice (some ⟨W.heap.size + 1, 0, none⟩) 2 2, .slice (some ⟨W.heap.size, 0, none⟩) 2 2] 31)
  have o1 := OwnV.alloc (ownV_alloc (W.alloc (.cells #[.int .i64 3, .int .i64 4] 3)) #[.int .i64 1, .int .i64 2] 3) (.cells #[.slice (some ⟨W.heap.size + 1, 0, none⟩) 2 2, .slice (some ⟨W.heap.size, 0, none⟩) 2 2] 31)
  have o2 := ownV_alloc ((W.alloc (.cells #[.int .i64 3, .int .i64 4] 3)).alloc (.cells #[.int .i64 1, .int .i64 2] 3)) #[.slice (some ⟨W.heap.size + 1, 0, none⟩) 2 2, .slice (some ⟨W.heap.size, 0, none⟩) 2 2] 31
  simp only [World.size_alloc] at o1 o2
  refine ⟨_, 2, rfl, Nat.le_refl _, by unfold maxLen; omega, fun r hr => ?_⟩
  match r, hr with
  | 0, _ => exact ⟨_, 0, _, rfl, OwnV.cell o2 (i := 0) rfl, OwnV.intsIn (xs := [1, 2]) o1 (Nat.le_refl _) (by show 2 ≤ maxLen; unfold maxLen; omega)⟩
  | 1, _ => exact ⟨_, 0, _, rfl, OwnV.cell o2 (i := 1) rfl, OwnV.intsIn (xs := [3, 4]) o0 (Nat.le_refl _) (by show 2 ≤ maxLen; unfold maxLen; omega)⟩

theorem field0 (a : Value) (b c : Int) (w : World) : (Instr.field 26 (.agg #[.int .i64 b, .int .i64 c, a]) 0).run Try.prog w = .ok (.int .i64 b) w := by
  simp [Instr.field, go_sem, asAgg, run_underlying Try.underlying26]

theorem plane_lit : plane 2 1 [[1, 2], [3, 4]] 1 = 12 := by decide

end Go.Proofs.Yticcjdcglfiggaa

/- FnExactStrip: at every argument the program's Strip answers as the specification's; the arguments read as before. -/
import Derived.Test.YteohkabenbaaaaaFlI6
import Derived.Test.YteohkabenbaaaaaFlL
import Derived.Test.YteohkabenbaaaaaExactKit
import Derived.Deep.RegionHeld3
import Derived.Deep.DeepCutAuto
namespace Go.Proofs.Yteohkabenbaaaaa
open Go.RowKit

attribute [local go_sem] run_store_float run_store_complex

theorem toFloat64S_g (v : Value) (xs : List Nat) (w : World) (h : FlIn w v xs) (hs : xs.length ≤ 1048576) :
    Calls Try.prog 52 #[v] w fun e w' => ∃ g, e = .returned (.slice (some ⟨g, 0, none⟩) xs.length xs.length) ∧ OwnV w' g (fls xs) ∧ Below w.heap.size w w' :=
  (toFloat64S_any v xs w h hs).mono fun _ _ ⟨h1, h2, h3, _⟩ => ⟨_, h1, h2, h3⟩
theorem one_apart {a g : Nat} (h : a < g) : ¬ a = g ∧ ¬ g = a := by omega
/-- The law's box. -/
structure One (w W : World) (a b : Value) : Prop where
  o1 : OwnV W w.heap.size [a, b]
  below : Below w.heap.size w W
theorem One.step {w W W' : World} {a b : Value} (h : One w W a b) (hb : Below W.heap.size W W') : One w W' a b := ⟨h.o1.step hb, Below.step h.below hb⟩
theorem One.put {w W : World} {a b : Value} {g : Nat} (h : One w W a b) (hg : w.heap.size < g) (i : Nat) (u : Value) : One w (W.setCell ⟨g, i, none⟩ u) a b :=
  ⟨h.o1.other (by show w.heap.size ≠ g; omega) u, h.below.setCell (p := ⟨g, i, none⟩) (by show w.heap.size ≤ g; omega) u⟩

set_option maxHeartbeats 8000000 in
theorem lawStrip_any (v : Value) (H : List Nat) (x y : Nat) (w : World) (h' : FlIn w v H) :
    Calls Try.prog 16 #[v, vW x y] w fun e w' => e = .returned (.bool true) ∧ Below w.heap.size w w' := by
  have HV' := hide h'
  obtain ⟨ao', cap', rfl, hl', hm', hc'⟩ := h'
  unfold maxLen at hm'
  clear hc'
  have HW := hide (Below.alloc1 w (.cells #[.float .f64 x, .float .f64 y] 55))
  have HB := hide (ownV_alloc w #[.float .f64 x, .float .f64 y] 55)
  have HTO := hide fun V => toWave_any x y V
  unfold vW at HTO ⊢
  obtain ⟨ok, eok⟩ : ∃ b, b = stOk H := ⟨_, rfl⟩
  have EOK := hide eok
  clear eok
  by_cases hsn' : H.length ≤ 1048576
  case neg =>
    go_enter Try.func16, Try.ntmps16
    go_wp2
    go_ret
    exact ⟨rfl, unhide HW⟩
  go_enter Try.func16, Try.ntmps16
  go_wp2
  obtain ⟨W0, e0⟩ : ∃ z, z = w.alloc (.cells #[.float .f64 x, .float .f64 y] 55) := ⟨_, rfl⟩
  have HT := hide (show One w W0 (.float .f64 x) (.float .f64 y) from by rw [e0]; exact ⟨unhide HB, unhide HW⟩)
  rw [← e0]
  clear e0 HW HB
  have HV1 := hide fun V (hV : Below w.heap.size w V) => (unhide HV').below hV
  have HTF := hide fun V (hV : Below w.heap.size w V) => toFloat64S_g _ H V ((unhide HV').below hV) hsn'
  have HSP := hide fun u V (hV : FlIn V u H) => specStrip_any u H x y V hV
  rw [← unhide EOK] at HSP
  unfold vW at HSP
  have c0 := (unhide HT).o1.cell (i := 0) rfl
  have c1 := (unhide HT).o1.cell (i := 1) rfl
  go_cut [5, 6] (fun sl sb wx => ∃ g r s, sl = .pointer (some ⟨g, 0, none⟩) ∧ sb = .bool ok ∧ fsame .f64 r (stRe x y H) ∧ fsame .f64 s (stIm x y H) ∧ w.heap.size < g ∧ Hid (OwnV wx g [.float .f64 r, .float .f64 s]) ∧ Hid (One w wx (.float .f64 x) (.float .f64 y)))
  case first =>
    go_region_held3 (fun w' => w'.cell? ⟨w.heap.size, 0, none⟩ = some (.float .f64 x) ∧ w'.cell? ⟨w.heap.size, 1, none⟩ = some (.float .f64 y)) (go_keep) (first | (go_at_call 52; refine (unhide HTF _ (by first | exact (unhide HT).below | exact (unhide HT).below.drew | exact ((unhide HT).step (Below.alloc1 _ _)).below | exact ((unhide HT).step (Below.alloc1 _ _)).below.drew)).mono ?_; rintro e wf ⟨gf, rfl, ho, hb⟩; have HS := hide ho; clear ho; have hgq := (unhide HT).o1.lt; (first | (have HT' := hide ((unhide HT).step hb)) | (have HT' := hide ((unhide HT).step (below_undrew' hb))) | (have HT' := hide ((unhide HT).step (Below.step (Below.alloc1 _ _) hb)); have HN := hide (OwnV.step (ownV_alloc _ _ _) hb); have hgN := hgq; obtain ⟨m1, m2⟩ := one_apart hgq) | (have HT' := hide ((unhide HT).step (Below.step (Below.alloc1 _ _) (below_undrew' hb))); have HN := hide (OwnV.step (OwnV.drew (ownV_alloc _ _ _)) hb); have hgN := hgq; obtain ⟨m1, m2⟩ := one_apart hgq)); replace HT := HT'; clear HT' hgq; (try replace HN := hide (OwnV.step (unhide HN) hb)); (try (have n0 := (unhide HN).cell (i := 0) rfl; have n1 := (unhide HN).cell (i := 1) rfl; have nf := (unhide HN).frozen)); have f0 := (unhide HT).o1.cell (i := 0) rfl; have f1 := (unhide HT).o1.cell (i := 1) rfl; clear hb) | (go_at_call 39; refine (unhide HTO _).mono ?_; rintro e wt ⟨rfl, hb⟩; have hgq := (unhide HT).o1.lt; (first | (have HT' := hide ((unhide HT).step hb); have HS' := hide (OwnV.step (unhide HS) hb)) | (have HT' := hide ((unhide HT).step (below_undrew' hb)); have HS' := hide (OwnV.step (unhide HS) (below_undrew' hb))) | (have HT' := hide ((unhide HT).step (Below.step (Below.alloc1 _ _) hb)); have HS' := hide (OwnV.step (unhide HS) (Below.step (Below.alloc1 _ _) hb)); have HN := hide (OwnV.step (ownV_alloc _ _ _) hb); have hgN := hgq; obtain ⟨m1, m2⟩ := one_apart hgq) | (have HT' := hide ((unhide HT).step (Below.step (Below.alloc1 _ _) (below_undrew' hb))); have HS' := hide (OwnV.step (unhide HS) (Below.step (Below.alloc1 _ _) (below_undrew' hb))); have HN := hide (OwnV.step (OwnV.drew (ownV_alloc _ _ _)) hb); have hgN := hgq; obtain ⟨m1, m2⟩ := one_apart hgq)); replace HT := HT'; clear HT' hgq; replace HS := HS'; clear HS'; (try replace HN := hide (OwnV.step (unhide HN) hb)); (try (have n0 := (unhide HN).cell (i := 0) rfl; have n1 := (unhide HN).cell (i := 1) rfl; have nf := (unhide HN).frozen)); have f0 := (unhide HT).o1.cell (i := 0) rfl; have f1 := (unhide HT).o1.cell (i := 1) rfl; clear hb) | (go_at_call 51; refine (unhide HSP _ _ (by first | exact OwnV.flIn (unhide HS) (Nat.le_refl _) (by unfold maxLen; omega) | exact OwnV.flIn (OwnV.step (unhide HS) (Below.alloc1 _ _)) (Nat.le_refl _) (by unfold maxLen; omega))).mono ?_; rintro e wr ⟨r, s, rfl, hr, hs, hb⟩; have hgq := (unhide HT).o1.lt; (first | (have HT' := hide ((unhide HT).step hb)) | (have HT' := hide ((unhide HT).step (below_undrew' hb))) | (have HT' := hide ((unhide HT).step (Below.step (Below.alloc1 _ _) hb)); have HN := hide (OwnV.step (ownV_alloc _ _ _) hb); have hgN := hgq; obtain ⟨m1, m2⟩ := one_apart hgq) | (have HT' := hide ((unhide HT).step (Below.step (Below.alloc1 _ _) (below_undrew' hb))); have HN := hide (OwnV.step (OwnV.drew (ownV_alloc _ _ _)) hb); have hgN := hgq; obtain ⟨m1, m2⟩ := one_apart hgq)); replace HT := HT'; clear HT' hgq; (try replace HN := hide (OwnV.step (unhide HN) hb)); (try (have n0 := (unhide HN).cell (i := 0) rfl; have n1 := (unhide HN).cell (i := 1) rfl; have nf := (unhide HN).frozen)); have f0 := (unhide HT).o1.cell (i := 0) rfl; have f1 := (unhide HT).o1.cell (i := 1) rfl; clear hb))
    all_goals
      go_wp2_with fail
      go_meet
      first
        | exact ⟨_, _, _, rfl, rfl, hr, hs, (unhide HT).o1.lt, ownV_alloc _ _ _, (unhide HT).step (Below.alloc1 _ _)⟩
        | exact ⟨_, _, _, rfl, rfl, hr, hs, hgN, (OwnV.set (unhide HN) 0 _ (by simp)).set 1 _ (by simp), ((unhide HT).put hgN 0 _).put hgN 1 _⟩
  case rest =>
  obtain ⟨g, r, s, rfl, rfl, hr, hs, hlg, HG, HT⟩ := hcut
  clear c0 c1 HSP
  have HIM := hide fun u V (hV : FlIn V u H) => implStrip_any u H x y V hV
  rw [← unhide EOK] at HIM
  unfold vW at HIM
  go_wp2_with fail
  refine (unhide HTF _ (unhide HT).below).mono ?_
  rintro e w1 ⟨gx, rfl, ho, hb⟩
  have HX := hide ho
  replace HT := hide ((unhide HT).step hb)
  replace HG := hide (OwnV.step (unhide HG) hb)
  clear hb ho
  have c0 := (unhide HT).o1.cell (i := 0) rfl
  have c1 := (unhide HT).o1.cell (i := 1) rfl
  go_wp2_with fail
  refine (unhide HTO _).mono ?_
  rintro e w2 ⟨rfl, hb⟩
  replace HT := hide ((unhide HT).step hb)
  replace HG := hide (OwnV.step (unhide HG) hb)
  replace HX := hide (OwnV.step (unhide HX) hb)
  clear hb c0 c1 HTO
  go_wp2_with fail
  refine (unhide HIM _ _ (OwnV.flIn (unhide HX) (Nat.le_refl _) (by unfold maxLen; omega))).mono ?_
  rintro e w3 ⟨r', s', rfl, hr', hs', hb⟩
  replace HT := hide ((unhide HT).step hb)
  replace HG := hide (OwnV.step (unhide HG) hb)
  replace HX := hide (OwnV.step (unhide HX) hb)
  clear hb HIM
  have AG := Below.alloc1 w3 (.cells #[.float .f64 r', .float .f64 s'] 32)
  replace HT := hide ((unhide HT).step AG)
  replace HG := hide (OwnV.step (unhide HG) AG)
  replace HX := hide (OwnV.step (unhide HX) AG)
  have HG' := hide (ownV_alloc w3 #[.float .f64 r', .float .f64 s'] 32)
  clear AG
  have d0 := (unhide HG).cell (i := 0) rfl
  have d1 := (unhide HG).cell (i := 1) rfl
  have d2 := (unhide HG').cell (i := 0) rfl
  have d3 := (unhide HG').cell (i := 1) rfl
  have HEQ := hide fun V => eqWave_any r' s' r s V (hr'.trans hr.symm) (hs'.trans hs.symm)
  unfold vW at HEQ
  go_wp2_with fail
  refine (unhide HEQ _).mono ?_
  rintro e w4 ⟨rfl, hb⟩
  replace HT := hide ((unhide HT).step hb)
  replace HX := hide (OwnV.step (unhide HX) hb)
  clear hb HEQ d0 d1 d2 d3 HG HG'
  go_wp2_with fail
  refine (unhide HTF _ (unhide HT).below).mono ?_
  rintro e w5 ⟨gy, rfl, ho, hb⟩
  have HY := hide ho
  replace HT := hide ((unhide HT).step hb)
  replace HX := hide (OwnV.step (unhide HX) hb)
  clear hb ho HTF
  have HW := hide (unhide HT).below
  go_wp2_with fail
  refine (eqFloat64S_any _ _ H _ (OwnV.flIn (unhide HX) (Nat.le_refl _) (by unfold maxLen; omega)) (OwnV.flIn (unhide HY) (Nat.le_refl _) (by unfold maxLen; omega))).mono ?_
  rintro e w6 ⟨rfl, n, rfl⟩
  replace HW := hide (below_drewN (unhide HW) n)
  go_wp2
  go_ret
  exact ⟨rfl, unhide HW⟩

end Go.Proofs.Yteohkabenbaaaaa

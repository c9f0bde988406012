/- Contracts of the laws' own sameFloat, toWave, toSmall, eqWave, eqSmall. -/
import Derived.Test.YtglehiakikhlaaaFlD
import Derived.Test.YtglehiakikhlaaaRows
import Derived.Test.YtglehiakikhlaaaExactKit
import Derived.Test.YtglehiakikhlaaaWalkD
namespace Go.Proofs.Ytglehiakikhlaaa
open Go.RowKit

attribute [local go_sem] run_store_float run_store_complex

theorem OwnV.drewN {w : World} {g : Nat} {vs : List Value} (h : OwnV w g vs) (n : Nat) : OwnV (w.drewN n) g vs := h

def vW (r s : Nat) : Value := .agg #[.float .f64 r, .float .f64 s]
def vS (r s : Nat) : Value := .agg #[.float .f32 r, .float .f32 s]

set_option maxHeartbeats 800000 in
theorem sameFloat_q (x y : Nat) (w : World) (h : fsame .f64 x y) :
    Calls Try.prog 39 #[.float .f64 x, .float .f64 y] w fun e w' => e = .returned (.bool true) ∧ ∃ n, w' = w.drewN n := by
  by_cases hx : fnan .f64 x
  · have hy := h.nan hx
    have ox := order_nan_l hx x
    have oy := order_nan_l hy y
    clear h hx hy
    go_enter Try.func39, Try.ntmps39
    go_wp2
    go_ret
    exact ⟨rfl, 0, rfl⟩
  · obtain rfl : x = y := by
      rcases h with h | h
      · exact h
      · exact absurd h.1 hx
    have ox := order_self hx
    by_cases h0 : FloatKind.f64.format.order x 0 = some .eq
    · clear h hx
      go_enter Try.func39, Try.ntmps39
      go_wp2_with (refine wpList_float rfl .quo 25 25 _ _ rfl rfl .f64 4607182418800017408 x rfl rfl ?_; intro r n hr)
      rename_i r1 n1 h1
      have e := order_same (h1.trans hr.symm) (fsame.refl .f64 0)
      go_ret
      exact ⟨ret_bool (by rw [e]; simp), _, rfl⟩
    · clear h hx
      go_enter Try.func39, Try.ntmps39
      go_wp2
      go_ret
      exact ⟨rfl, 0, rfl⟩

theorem sameFloat_any (x y : Nat) (w : World) (h : fsame .f64 x y) :
    Calls Try.prog 39 #[.float .f64 x, .float .f64 y] w fun e w' => e = .returned (.bool true) ∧ Below w.heap.size w w' :=
  (sameFloat_q x y w h).mono fun _ _ ⟨h1, n, h2⟩ => ⟨h1, h2 ▸ below_drewN (Below.refl _ _) n⟩

set_option maxHeartbeats 800000 in
theorem eqWave_any (x y x' y' : Nat) (w : World) (h1 : fsame .f64 x x') (h2 : fsame .f64 y y') :
    Calls Try.prog 72 #[vW x y, vW x' y'] w fun e w' => e = .returned (.bool true) ∧ Below w.heap.size w w' := by
  unfold vW
  have H1 := hide fun V => sameFloat_any x x' V h1
  have H2 := hide fun V => sameFloat_any y y' V h2
  clear h1 h2
  have A := Below.step (Below.alloc1 w (.cells #[.float .f64 x, .float .f64 y] 37)) (Below.alloc1 _ (.cells #[.float .f64 x', .float .f64 y'] 37))
  have O1 := (ownV_alloc w #[.float .f64 x, .float .f64 y] 37).alloc (.cells #[.float .f64 x', .float .f64 y'] 37)
  have O2 := ownV_alloc (w.alloc (.cells #[.float .f64 x, .float .f64 y] 37)) #[.float .f64 x', .float .f64 y'] 37
  simp only [World.size_alloc] at O2
  have HW := hide A
  have HO1 := hide O1
  have HO2 := hide O2
  clear A O1 O2
  go_enter Try.func72, Try.ntmps72
  go_wp2_with fail
  refine (unhide H1 _).mono ?_
  rintro e w1 ⟨rfl, hb⟩
  replace HW := hide (Below.step (unhide HW) hb)
  have c1 := OwnV.cell (OwnV.step (unhide HO1) hb) (i := 1) rfl
  have c2 := OwnV.cell (OwnV.step (unhide HO2) hb) (i := 1) rfl
  clear hb H1 HO1 HO2
  go_wp2_with fail
  refine (unhide H2 _).mono ?_
  rintro e w2 ⟨rfl, hb⟩
  replace HW := hide (Below.step (unhide HW) hb)
  clear hb H2
  go_wp2
  go_ret
  exact ⟨rfl, unhide HW⟩

set_option maxHeartbeats 400000 in
theorem toWave_any (x y : Nat) (w : World) :
    Calls Try.prog 71 #[vW x y] w fun e w' => e = .returned (vW x y) ∧ Below w.heap.size w w' := by
  unfold vW
  go_enter Try.func71, Try.ntmps71
  go_wp2
  refine bodyPost_ret (v := vW x y) (by simp [results, Try.results71, go_sem, vW]) rfl ⟨rfl, ?_⟩
  exact (((Below.refl _ _).alloc (Nat.le_refl _) _).alloc (by simp) _).alloc (by simp; omega) _

theorem below_put2 {w X : World} {g : Nat} (h : Below w.heap.size w X) (hg : w.heap.size ≤ g) (n : Nat) (a b : Value) : Below w.heap.size w (((X.drewN n).setCell ⟨g, 0, none⟩ a).setCell ⟨g, 1, none⟩ b) :=
  ((below_drewN h n).setCell (p := ⟨g, 0, none⟩) hg _).setCell (p := ⟨g, 1, none⟩) hg _

end Go.Proofs.Ytglehiakikhlaaa

/- Contracts of marks of records of the call's own. Written by wip/mkmu17.py out of MuTank. No statement about the program stands here. -/
import Derived.Test.YtogoknldhimgfaaOwR
import Derived.Test.YtogoknldhimgfaaRCall
namespace Go.Proofs.Ytogoknldhimgfaa
open Go.RowKit

theorem markCalls_o (g : Nat) (L : List CallT) (k : Int) (w : World) (h : OwnV w g (recCells 5 eCall L)) (hn : L.length ≤ 1048576) (hk0 : 0 ≤ k) (hk1 : k ≤ 1152921504606846976) :
    Calls Try.prog 33 #[.slice (some ⟨g, 0, none⟩) L.length L.length, .int .i64 k] w fun e w' => e = .returned (.int .i64 (k + 5 * (L.length : Int))) ∧ Kept (fun b => b = g) w w' := by
  refine (markCallS_any g L.length L.length _ k w h (by rw [recCells_length]; exact Nat.le_refl _) hn hk0 hk1).mono ?_
  rintro e w' ⟨rfl, hk, _⟩
  exact ⟨rfl, hk⟩
theorem markCallS_zero (ao : Option Addr) (cap : Nat) (k : Int) (w : World) : Calls Try.prog 33 #[.slice ao 0 cap, .int .i64 k] w fun e w' => e = .returned (.int .i64 k) ∧ w' = w := by
  go_enter Try.func33, Try.ntmps33
  go_wp2
  refine wp_loop_rounds 1 ?_
  rw [rounds_succ]
  go_wp2
  go_ret
  exact ⟨rfl, rfl⟩
theorem heldCallS_zero (ao : Option Addr) (cap : Nat) (k : Int) (w : World) : Calls Try.prog 34 #[.slice ao 0 cap, .int .i64 k] w fun e w' => e = .returned (.int .i64 k) ∧ w' = w := by
  go_enter Try.func34, Try.ntmps34
  go_wp2
  refine wp_loop_rounds 1 ?_
  rw [rounds_succ]
  go_wp2
  go_ret
  exact ⟨rfl, rfl⟩
theorem markCallS_v (B U : Nat) (ao : Option Addr) (m cap : Nat) (M : List CallT) (w : World) (h : OwnRU 5 eCall B U w (.slice ao m cap) M) (hn : M.length ≤ 1048576) :
    Calls Try.prog 33 #[.slice ao m cap, .int .i64 1] w fun e w' => e = .returned (.int .i64 (1 + 5 * (M.length : Int))) ∧ Kept (fun b => B ≤ b ∧ b < U) w w' ∧ MarkU (mkCall 1) 5 B U w' (.slice ao m cap) M.length := by
  obtain ⟨ao', cap', e, h1, h2, h3⟩ := h
  simp only [Value.slice.injEq] at e
  obtain ⟨rfl, rfl, rfl⟩ := e
  by_cases hne : M = []
  · subst hne
    refine (markCallS_zero ao cap 1 w).mono ?_
    rintro e w' ⟨rfl, rfl⟩
    exact ⟨rfl, Kept.refl _ _, ao, cap, rfl, fun h => absurd rfl h⟩
  · obtain ⟨g, rfl, hg, hu, ho⟩ := h3 hne
    refine (markCallS_any g cap M.length _ 1 w ho (by rw [recCells_length]; exact Nat.le_refl _) hn (by omega) (by omega)).mono ?_
    rintro e w' ⟨rfl, hk, ho'⟩
    exact ⟨rfl, hk.mono (fun b _ hb => by rw [hb]; exact ⟨hg, hu⟩), _, cap, rfl, fun _ => ⟨g, rfl, hg, hu, ho'⟩⟩
theorem heldCallS_v (B U : Nat) (ao : Option Addr) (m cap : Nat) (M : List CallT) (W : World) (h : MarkU (mkCall 1) 5 B U W (.slice ao m cap) M.length) (hn : M.length ≤ 1048576) :
    Calls Try.prog 34 #[.slice ao m cap, .int .i64 1] W fun e w' => e = .returned (.int .i64 (1 + 5 * (M.length : Int))) ∧ Below W.heap.size W w' := by
  obtain ⟨ao', cap', e, h3⟩ := h
  simp only [Value.slice.injEq] at e
  obtain ⟨rfl, rfl, rfl⟩ := e
  by_cases hne : M.length = 0
  · rw [hne]
    refine (heldCallS_zero ao cap 1 W).mono ?_
    rintro e w' ⟨rfl, rfl⟩
    exact ⟨rfl, Below.refl _ _⟩
  · obtain ⟨g, rfl, hg, hu, ho⟩ := h3 hne
    exact heldCallS_any g cap M.length 1 W ho hn (by omega) (by omega)

theorem tyCall : RecTy 24 31 5 eCall := recTy_mk Try.underlying24 Try.infoCall rfl (by decide) (by decide) (fun x j hj => by
  have : j = 0 ∨ j = 1 ∨ j = 2 ∨ j = 3 ∨ j = 4 := by omega
  rcases this with e | e | e | e | e <;> subst e <;> rfl)

end Go.Proofs.Ytogoknldhimgfaa

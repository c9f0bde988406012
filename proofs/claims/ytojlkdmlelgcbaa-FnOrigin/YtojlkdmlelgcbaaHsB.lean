/- Marks of lots and traders of the call's own; houses in memory: words; contracts of the laws' own markHouse, heldHouse. Written by wip/mkhsb.py. -/
import Derived.Test.YtojlkdmlelgcbaaHsA
import Derived.Test.YtojlkdmlelgcbaaCsM
namespace Go.Proofs.Ytojlkdmlelgcbaa
open Go.RowKit

theorem markLotS_zero (ao : Option Addr) (cap : Nat) (k : Int) (w : World) : Calls Try.prog 63 #[.slice ao 0 cap, .int .i64 k] w fun e w' => e = .returned (.int .i64 k) ∧ w' = w := by
  go_enter Try.func63, Try.ntmps63
  go_wp2
  refine wp_loop_rounds 1 ?_
  rw [rounds_succ]
  go_wp2
  go_ret
  exact ⟨rfl, rfl⟩
theorem heldLotS_zero (ao : Option Addr) (cap : Nat) (k : Int) (w : World) : Calls Try.prog 65 #[.slice ao 0 cap, .int .i64 k] w fun e w' => e = .returned (.int .i64 k) ∧ w' = w := by
  go_enter Try.func65, Try.ntmps65
  go_wp2
  refine wp_loop_rounds 1 ?_
  rw [rounds_succ]
  go_wp2
  go_ret
  exact ⟨rfl, rfl⟩
theorem markLotS_v (B U : Nat) (v : Value) (M : List LotT) (k : Int) (w : World) (h : OwnRU 7 eLot B U w v M) (hn : M.length ≤ 1048576) (hk0 : 0 ≤ k) (hk1 : k ≤ 1152921504606846976) :
    Calls Try.prog 63 #[v, .int .i64 k] w fun e w' => e = .returned (.int .i64 (k + 7 * (M.length : Int))) ∧ Kept (fun b => B ≤ b ∧ b < U) w w' ∧ MarkU (mkLot k) 7 B U w' v M.length := by
  obtain ⟨ao, cap, rfl, h1, h2, h3⟩ := h
  by_cases hne : M = []
  · subst hne
    refine (markLotS_zero ao cap k w).mono ?_
    rintro e w' ⟨rfl, rfl⟩
    exact ⟨by simp, Kept.refl _ _, ao, cap, rfl, fun h => absurd rfl h⟩
  · obtain ⟨g, rfl, hg, hu, ho⟩ := h3 hne
    refine (markLotS_any g cap M.length _ k w ho (by rw [recCells_length]; exact Nat.le_refl _) hn hk0 hk1).mono ?_
    rintro e w' ⟨rfl, hk, ho'⟩
    exact ⟨rfl, hk.mono (fun b _ hb => by rw [hb]; exact ⟨hg, hu⟩), _, cap, rfl, fun _ => ⟨g, rfl, hg, hu, ho'⟩⟩
theorem heldLotS_v (B U : Nat) (v : Value) (N : Nat) (k : Int) (W : World) (h : MarkU (mkLot k) 7 B U W v N) (hn : N ≤ 1048576) (hk0 : 0 ≤ k) (hk1 : k ≤ 1152921504606846976) :
    Calls Try.prog 65 #[v, .int .i64 k] W fun e w' => e = .returned (.int .i64 (k + 7 * (N : Int))) ∧ Below W.heap.size W w' := by
  obtain ⟨ao, cap, rfl, h3⟩ := h
  by_cases hne : N = 0
  · subst hne
    refine (heldLotS_zero ao cap k W).mono ?_
    rintro e w' ⟨rfl, rfl⟩
    exact ⟨by simp, Below.refl _ _⟩
  · obtain ⟨g, rfl, hg, hu, ho⟩ := h3 hne
    exact heldLotS_any g cap N k W ho hn hk0 hk1
theorem tyLot : RecTy 24 39 7 eLot := recTy_mk Try.underlying24 Try.infoLot rfl (by decide) (by decide) (fun x j hj => by
  have : j = 0 ∨ j = 1 ∨ j = 2 ∨ j = 3 ∨ j = 4 ∨ j = 5 ∨ j = 6 := by omega
  rcases this with e | e | e | e | e | e | e <;> subst e <;> rfl)

theorem markTraderS_zero (ao : Option Addr) (cap : Nat) (k : Int) (w : World) : Calls Try.prog 64 #[.slice ao 0 cap, .int .i64 k] w fun e w' => e = .returned (.int .i64 k) ∧ w' = w := by
  go_enter Try.func64, Try.ntmps64
  go_wp2
  refine wp_loop_rounds 1 ?_
  rw [rounds_succ]
  go_wp2
  go_ret
  exact ⟨rfl, rfl⟩
theorem heldTraderS_zero (ao : Option Addr) (cap : Nat) (k : Int) (w : World) : Calls Try.prog 66 #[.slice ao 0 cap, .int .i64 k] w fun e w' => e = .returned (.int .i64 k) ∧ w' = w := by
  go_enter Try.func66, Try.ntmps66
  go_wp2
  refine wp_loop_rounds 1 ?_
  rw [rounds_succ]
  go_wp2
  go_ret
  exact ⟨rfl, rfl⟩
theorem markTraderS_v (B U : Nat) (v : Value) (M : List TraderT) (k : Int) (w : World) (h : OwnRU 3 eTrader B U w v M) (hn : M.length ≤ 1048576) (hk0 : 0 ≤ k) (hk1 : k ≤ 1152921504606846976) :
    Calls Try.prog 64 #[v, .int .i64 k] w fun e w' => e = .returned (.int .i64 (k + 3 * (M.length : Int))) ∧ Kept (fun b => B ≤ b ∧ b < U) w w' ∧ MarkU (mkTrader k) 3 B U w' v M.length := by
  obtain ⟨ao, cap, rfl, h1, h2, h3⟩ := h
  by_cases hne : M = []
  · subst hne
    refine (markTraderS_zero ao cap k w).mono ?_
    rintro e w' ⟨rfl, rfl⟩
    exact ⟨by simp, Kept.refl _ _, ao, cap, rfl, fun h => absurd rfl h⟩
  · obtain ⟨g, rfl, hg, hu, ho⟩ := h3 hne
    refine (markTraderS_any g cap M.length _ k w ho (by rw [recCells_length]; exact Nat.le_refl _) hn hk0 hk1).mono ?_
    rintro e w' ⟨rfl, hk, ho'⟩
    exact ⟨rfl, hk.mono (fun b _ hb => by rw [hb]; exact ⟨hg, hu⟩), _, cap, rfl, fun _ => ⟨g, rfl, hg, hu, ho'⟩⟩
theorem heldTraderS_v (B U : Nat) (v : Value) (N : Nat) (k : Int) (W : World) (h : MarkU (mkTrader k) 3 B U W v N) (hn : N ≤ 1048576) (hk0 : 0 ≤ k) (hk1 : k ≤ 1152921504606846976) :
    Calls Try.prog 66 #[v, .int .i64 k] W fun e w' => e = .returned (.int .i64 (k + 3 * (N : Int))) ∧ Below W.heap.size W w' := by
  obtain ⟨ao, cap, rfl, h3⟩ := h
  by_cases hne : N = 0
  · subst hne
    refine (heldTraderS_zero ao cap k W).mono ?_
    rintro e w' ⟨rfl, rfl⟩
    exact ⟨by simp, Below.refl _ _⟩
  · obtain ⟨g, rfl, hg, hu, ho⟩ := h3 hne
    exact heldTraderS_any g cap N k W ho hn hk0 hk1
theorem tyTrader : RecTy 25 37 3 eTrader := recTy_mk Try.underlying25 Try.infoTrader rfl (by decide) (by decide) (fun x j hj => by
  have : j = 0 ∨ j = 1 ∨ j = 2 := by omega
  rcases this with e | e | e <;> subst e <;> rfl)

/-- A house that can be read. -/
def HsIn (w : World) (lv tv : Value) (h : HsT) : Prop := RLot w lv h.1 ∧ RTrader w tv h.2.1
theorem HsIn.below {w w' : World} {lv tv : Value} {h : HsT} (k : HsIn w lv tv h) (hb : Below w.heap.size w w') : HsIn w' lv tv h := ⟨k.1.below hb, k.2.below hb⟩
/-- A house of the call's own: the lots ahead of the traders. -/
def HsU (B U : Nat) (w : World) (lv tv : Value) (h : HsT) : Prop := ∃ M, (B ≤ M ∧ M ≤ U) ∧ OwnRU 7 eLot B M w lv h.1 ∧ OwnRU 3 eTrader M U w tv h.2.1
def HsK (B U : Nat) (w : World) (lv tv : Value) (n m : Nat) : Prop := ∃ M, (B ≤ M ∧ M ≤ U) ∧ MarkU (mkLot 1) 7 B M w lv n ∧ MarkU (mkTrader (1 + 7 * (n : Int))) 3 M U w tv m
section
variable {B U : Nat} {w w' : World} {lv tv : Value} {h : HsT} {n m : Nat}
theorem HsU.inn (k : HsU B U w lv tv h) : HsIn w lv tv h := by
  obtain ⟨M, _, h1, h2⟩ := k
  exact ⟨h1.inn, h2.inn⟩
theorem HsU.below (k : HsU B U w lv tv h) (hb : Below w.heap.size w w') : HsU B U w' lv tv h := by
  obtain ⟨M, hM, h1, h2⟩ := k
  exact ⟨M, hM, h1.below hb, h2.below hb⟩
theorem HsU.step (k : HsU B U w lv tv h) (hb : Below w.heap.size w w') : HsU B U w' lv tv h := k.below hb
theorem HsU.kept {T : Nat → Prop} (k : HsU B U w lv tv h) (hk : Kept T w w') (hT : ∀ b, B ≤ b → ¬ T b) : HsU B U w' lv tv h := by
  obtain ⟨M, hM, h1, h2⟩ := k
  exact ⟨M, hM, h1.kept hk fun b hb _ => hT b hb, h2.kept hk fun b hb _ => hT b (by have := hM.1; omega)⟩
theorem HsK.below (k : HsK B U w lv tv n m) (hb : Below w.heap.size w w') : HsK B U w' lv tv n m := by
  obtain ⟨M, hM, h1, h2⟩ := k
  exact ⟨M, hM, h1.below hb, h2.below hb⟩
theorem HsK.step (k : HsK B U w lv tv n m) (hb : Below w.heap.size w w') : HsK B U w' lv tv n m := k.below hb
theorem HsK.kept {T : Nat → Prop} (k : HsK B U w lv tv n m) (hk : Kept T w w') (hT : ∀ b, B ≤ b → b < U → ¬ T b) : HsK B U w' lv tv n m := by
  obtain ⟨M, hM, h1, h2⟩ := k
  exact ⟨M, hM, h1.kept hk fun b hb hl => hT b hb (by omega), h2.kept hk fun b hb hl => hT b (by omega) hl⟩
end

set_option maxRecDepth 10000 in
set_option maxHeartbeats 1600000 in
theorem markHouse_v (B U : Nat) (tk : Int) (dao : Option Addr) (dn dc : Nat) (fao : Option Addr) (fn fc : Nat) (h : HsT) (w : World) (hh : HsU B U w (.slice dao dn dc) (.slice fao fn fc) h) (hn : h.1.length ≤ 1048576) (hm : h.2.1.length ≤ 1048576) (hU : U ≤ w.heap.size) :
    Calls Try.prog 25 #[vHouse (.slice dao dn dc) (.slice fao fn fc) tk, .int .i64 1] w fun e w' => e = .returned (.int .i64 (1 + 7 * (h.1.length : Int) + 3 * (h.2.1.length : Int))) ∧ Kept (fun b => B ≤ b ∧ b < U) w w' ∧ HsK B U w' (.slice dao dn dc) (.slice fao fn fc) h.1.length h.2.1.length := by
  obtain ⟨M, hBM, h1, h2⟩ := hh
  generalize h.1 = L at *
  generalize h.2.1 = T at *
  have A := Below.alloc1 w (.cells #[.slice dao dn dc, .slice fao fn fc, .int .i64 tk] 27)
  have HO := hide (ownV_alloc w #[.slice dao dn dc, .slice fao fn fc, .int .i64 tk] 27)
  have HL := hide (h1.below A)
  have HT := hide (h2.below A)
  have HK : Hid (Kept (fun b => B ≤ b ∧ b < U) w (w.alloc (.cells #[.slice dao dn dc, .slice fao fn fc, .int .i64 tk] 27))) := kept_of_below A
  clear A h1 h2
  unfold vHouse
  go_enter Try.func25, Try.ntmps25
  go_wp2_with fail
  refine (markLotS_v B M _ L 1 _ (unhide HL) hn (by omega) (by omega)).mono ?_
  rintro e w1 ⟨rfl, hk, hmk⟩
  have HM := hide hmk
  replace HK := hide ((unhide HK).trans (hk.mono fun b _ x => ⟨x.1, by have := hBM.2; have := x.2; omega⟩))
  replace HT := hide ((unhide HT).kept hk fun b hb _ x => by have := x.2; omega)
  replace HO := hide ((unhide HO).kept hk fun x => by have := x.2; omega)
  clear hk hmk HL
  have c1 := (unhide HO).cell (i := 1) rfl
  go_wp2_with fail
  refine (markTraderS_v M U _ T (1 + 7 * (L.length : Int)) _ (unhide HT) hm (by omega) (by omega)).mono ?_
  rintro e w2 ⟨rfl, hk, hmk⟩
  replace HM := hide ((unhide HM).kept hk fun b _ hb x => by have := x.1; omega)
  replace HK := hide ((unhide HK).trans (hk.mono fun b _ x => ⟨by have := hBM.1; have := x.1; omega, x.2⟩))
  have HN := hide hmk
  clear hk hmk HO HT c1
  go_wp2
  go_ret
  exact ⟨rfl, unhide HK, M, hBM, unhide HM, unhide HN⟩

set_option maxRecDepth 10000 in
set_option maxHeartbeats 1600000 in
theorem heldHouse_v (B U : Nat) (tk : Int) (dao : Option Addr) (dn dc : Nat) (fao : Option Addr) (fn fc : Nat) (n m : Nat) (w : World) (hh : HsK B U w (.slice dao dn dc) (.slice fao fn fc) n m) (hn : n ≤ 1048576) (hm : m ≤ 1048576) :
    Calls Try.prog 26 #[vHouse (.slice dao dn dc) (.slice fao fn fc) tk, .int .i64 1] w fun e w' => e = .returned (.int .i64 (1 + 7 * (n : Int) + 3 * (m : Int))) ∧ Below w.heap.size w w' := by
  obtain ⟨M, hBM, h1, h2⟩ := hh
  have A := Below.alloc1 w (.cells #[.slice dao dn dc, .slice fao fn fc, .int .i64 tk] 27)
  have HO := hide (ownV_alloc w #[.slice dao dn dc, .slice fao fn fc, .int .i64 tk] 27)
  have HL := hide (h1.below A)
  have HT := hide (h2.below A)
  have HW := hide A
  clear A h1 h2
  unfold vHouse
  go_enter Try.func26, Try.ntmps26
  go_wp2_with fail
  refine (heldLotS_v B M _ n 1 _ (unhide HL) hn (by omega) (by omega)).mono ?_
  rintro e w1 ⟨rfl, hb⟩
  replace HW := hide (Below.step (unhide HW) hb)
  replace HT := hide ((unhide HT).below hb)
  have c1 := OwnV.cell (OwnV.step (unhide HO) hb) (i := 1) rfl
  clear hb HL HO
  have hn0 : ¬ 1 + 7 * (n : Int) < 0 := by omega
  go_wp2_with fail
  refine (heldTraderS_v M U _ m (1 + 7 * (n : Int)) _ (unhide HT) hm (by omega) (by omega)).mono ?_
  rintro e w2 ⟨rfl, hb⟩
  replace HW := hide (Below.step (unhide HW) hb)
  clear hb HT c1
  have hn1 : ¬ 1 + 7 * (n : Int) + 3 * (m : Int) < 0 := by omega
  go_wp2
  go_ret
  exact ⟨rfl, unhide HW⟩

end Go.Proofs.Ytojlkdmlelgcbaa

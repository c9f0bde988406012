/- Texts laid together by wip/lay12v.py: VoA StoX VoC. -/
import Derived.Test.YtnfdokcpjcnknaaFwD
import Derived.Test.YtnfdokcpjcnknaaStoB
import Derived.Test.YtnfdokcpjcnknaaVoY0
import Derived.Deep.DeepCutAuto
import Derived.Test.YtnfdokcpjcnknaaRowB
import Derived.Deep.RegionLaw
import Derived.Deep.RegionHeld3
/- Draws for a voyage: numbers below any bound, spots; rows of records written into. No statement about the program stands here. -/
namespace Go.Proofs.Ytnfdokcpjcnknaa
open Go.RowKit

set_option maxHeartbeats 800000 in
theorem l1BelowG_any (cb n : Nat) (v : Value) (k : Int) (w : World) (h : Cur w cb v n) (hn : n ≤ 1048576) (hk0 : 1 ≤ k) :
    Calls Try.prog 13 #[.pointer (some ⟨cb, 0, none⟩), .int .i64 k] w fun e w' => ∃ x, e = .returned (.int .i64 x) ∧ 0 ≤ x ∧ x < k ∧ Cur w' cb v n ∧ Kept (fun b => b = cb) w w' := by
  by_cases h256 : k ≤ 256
  · exact l1Below_any cb n v k w h hn hk0 h256
  have HC := hide h
  have HK := hide (Kept.refl (fun b => b = cb) w)
  have HB := hide fun V hV => l1Byte_any cb n v V hV hn
  have hk2 : (256 : Int) < k := by omega
  clear h h256
  go_enter Try.func13, Try.ntmps13
  go_wp2_with fail
  refine (unhide HB _ (unhide HC)).mono ?_
  rintro e w1 ⟨x, rfl, hx0, hx1, hc, hk⟩
  replace HC := hide hc
  replace HK := hide ((unhide HK).trans hk)
  clear hc hk
  go_wp2_with fail
  refine (unhide HB _ (unhide HC)).mono ?_
  rintro e w2 ⟨y, rfl, hy0, hy1, hc, hk⟩
  replace HC := hide hc
  replace HK := hide ((unhide HK).trans hk)
  clear hc hk
  go_wp2_with fail
  refine (unhide HB _ (unhide HC)).mono ?_
  rintro e w3 ⟨z, rfl, hz0, hz1, hc, hk⟩
  replace HC := hide hc
  replace HK := hide ((unhide HK).trans hk)
  clear hc hk
  go_wp2_with fail
  refine (unhide HB _ (unhide HC)).mono ?_
  rintro e w4 ⟨t, rfl, ht0, ht1, hc, hk⟩
  replace HC := hide hc
  replace HK := hide ((unhide HK).trans hk)
  clear hc hk HB
  go_wp2
  go_ret
  exact ⟨_, rfl, Int.emod_nonneg _ (by omega), Int.emod_lt_of_pos _ (by omega), unhide HC, unhide HK⟩

/-- One cell of one record written. -/
theorem recG_set {α : Type} [Inhabited α] {n : Nat} {enc : α → Nat → Value} (M : List α) {i j : Nat} (hj : j < n) (hi : i < M.length) (y : α) (h : ∀ j', j' < n → j' ≠ j → enc y j' = enc (M.getD i default) j') :
    (recCells n enc M).set (i * n + j) (enc y j) = recCells n enc (M.set i y) := by
  have hn : 0 < n := by omega
  apply List.ext_getElem?
  intro q
  by_cases hq : q < M.length * n
  · have hd : q / n < M.length := by rw [Nat.div_lt_iff_lt_mul hn]; exact hq
    have hm := Nat.mod_lt q hn
    have hqe : q / n * n + q % n = q := by rw [Nat.mul_comm]; exact Nat.div_add_mod q n
    have e1 : (recCells n enc (M.set i y))[q]? = some (enc ((M.set i y).getD (q / n) default) (q % n)) := by
      have := recCells_get (enc := enc) (L := M.set i y) (n := n) (i := q / n) (j := q % n) (by rw [List.length_set]; exact hd) hm
      rwa [hqe] at this
    have e2 : (recCells n enc M)[q]? = some (enc (M.getD (q / n) default) (q % n)) := by
      have := recCells_get (enc := enc) (L := M) (n := n) (i := q / n) (j := q % n) hd hm
      rwa [hqe] at this
    rw [e1]
    obtain ⟨p1, p2⟩ := rec_place (i := i) hj
    by_cases hqi : q = i * n + j
    · subst hqi
      rw [List.getElem?_set_self (by rw [recCells_length]; exact hq), p1, p2]
      simp [List.getD, hi]
    · rw [List.getElem?_set_ne (fun e => hqi e.symm), e2]
      by_cases hdi : q / n = i
      · rw [hdi, List.getD_eq_getElem?_getD (l := M.set i y), List.getElem?_set_self hi]
        have hne : q % n ≠ j := fun e => hqi (by rw [← hqe, hdi, e])
        rw [← h (q % n) hm hne]
        rfl
      · rw [List.getD_eq_getElem?_getD (l := M.set i y), List.getElem?_set_ne (fun e => hdi e.symm), ← List.getD_eq_getElem?_getD]
  · rw [List.getElem?_eq_none (by rw [List.length_set, recCells_length]; omega), List.getElem?_eq_none (by rw [recCells_length, List.length_set]; omega)]
theorem RowB.set {α : Type} [Inhabited α] {T : TypeId} {n : Nat} {enc : α → Nat → Value} {B : Nat} {w : World} {g m cap : Nat} {L : List α} (h : RowB T n enc B w (some ⟨g, 0, none⟩) m cap L) {i j : Nat} (hj : j < n) (hi : i < L.length) (y : α) (u : Value) (hu : enc y j = u) (hy : ∀ j', j' < n → j' ≠ j → enc y j' = enc (L.getD i default) j') :
    RowB T n enc B (w.setCell ⟨g, i * n + j, none⟩ u) (some ⟨g, 0, none⟩) m cap (L.set i y) := by
  have hn : 0 < n := by omega
  have hl := h.len hn
  have h' := h
  obtain ⟨h1, h2⟩ := h'
  refine ⟨by rw [recCells_length, List.length_set, hl], ?_⟩
  rcases h2 with ⟨e, _⟩ | ⟨g', cap', cur, e, hg, hh, hc, hm, hs, ht⟩
  · cases e
  · simp only [Value.slice.injEq, Option.some.injEq, Addr.mk.injEq, and_true, true_and] at e
    obtain ⟨rfl, rfl⟩ := e
    refine Or.inr ⟨g, cap, cur.setIfInBounds (i * n + j) u, rfl, hg, heap_setCell_same w g _ _ _ _ hh, hc, hm, by simpa using hs, ?_⟩
    rw [← recG_set L hj hi y hy, hu, ← ht]
    simp [List.take_set]
/-- A spot that is drawn. -/
def SpAns (cb n : Nat) (v : Value) (w : World) (e : Ending) (w' : World) : Prop := ∃ x y z, e = .returned (v3 (x, y, z)) ∧ Cur w' cb v n ∧ Kept (fun b => b = cb) w w'

set_option maxRecDepth 10000 in
set_option maxHeartbeats 4000000 in
theorem l11DrawSpot_any (cb n : Nat) (v : Value) (w : World) (h : Cur w cb v n) (hn : n ≤ 1048576) :
    Calls Try.prog 34 #[.pointer (some ⟨cb, 0, none⟩)] w fun e w' => SpAns cb n v w e w' := by
  have QB := hide fun W (hW : Cur W cb v n) k h0 => l1BelowG_any cb n v k W hW hn h0
  have QO := hide fun W (hW : Cur W cb v n) k h0 h1 => l1Once_any cb n v k W hW hn h0 h1
  have hcl := h.lt
  have hA := Below.alloc1 w (.cells #[.int .i64 0, .int .i64 0, .int .i64 0] 38)
  have HC := hide (h.below hA)
  have HK : Hid (Kept (fun b => b = cb) w (w.alloc (.cells #[.int .i64 0, .int .i64 0, .int .i64 0] 38))) := kept_of_below hA
  have HR := hide (ownV_alloc w #[.int .i64 0, .int .i64 0, .int .i64 0] 38)
  obtain ⟨g2, e2⟩ : ∃ z, z = w.heap.size := ⟨_, rfl⟩
  obtain ⟨V, eV⟩ : ∃ z, z = w.alloc (.cells #[.int .i64 0, .int .i64 0, .int .i64 0] 38) := ⟨_, rfl⟩
  rw [← eV] at HC HK HR
  rw [← e2] at HR
  have h2c : ¬ g2 = cb := by omega
  have h2w : w.heap.size ≤ g2 := by omega
  clear hA h
  go_enter Try.func34, Try.ntmps34
  go_upto_region 1 with (fail)
  rw [← eV, ← e2]
  clear eV e2
  go_wp2_with fail
  refine (unhide QB _ (unhide HC) 3 (by omega)).mono ?_
  rintro e w1 ⟨x, rfl, -, -, hC, hK⟩
  replace HC := hide hC
  replace HR := hide ((unhide HR).kept hK h2c)
  replace HK := hide ((unhide HK).trans hK)
  clear hC hK
  go_wp2_with fail
  refine (unhide QB _ (unhide HC) 3 (by omega)).mono ?_
  rintro e w2 ⟨y, rfl, -, -, hC, hK⟩
  replace HC := hide hC
  replace HR := hide ((unhide HR).kept hK h2c)
  replace HK := hide ((unhide HK).trans hK)
  clear hC hK
  go_wp2_with fail
  refine (unhide QB _ (unhide HC) 3 (by omega)).mono ?_
  rintro e w3 ⟨z, rfl, -, -, hC, hK⟩
  replace HC := hide hC
  replace HR := hide ((unhide HR).kept hK h2c)
  replace HK := hide ((unhide HK).trans hK)
  clear hC hK QB
  have hA := Below.alloc1 w3 (.cells #[.int .i64 x, .int .i64 y, .int .i64 z] 38)
  replace HC := hide ((unhide HC).below hA)
  have hsz := (unhide HK).size
  have hr2 := (unhide HR).lt
  replace HR := hide ((unhide HR).step hA)
  replace HK := hide ((unhide HK).trans (kept_of_below hA))
  have HX := hide (ownV_alloc w3 #[.int .i64 x, .int .i64 y, .int .i64 z] 38)
  obtain ⟨g3, e3⟩ : ∃ u, u = w3.heap.size := ⟨_, rfl⟩
  rw [← e3] at HX
  have h3c : ¬ g3 = cb := by omega
  have h3w : w.heap.size ≤ g3 := by omega
  have h32 : ¬ g3 = g2 := by omega
  have h23 : ¬ g2 = g3 := by omega
  clear hA
  go_upto_region 2 with (fail)
  rw [← e3]
  generalize w3.alloc (.cells #[.int .i64 x, .int .i64 y, .int .i64 z] 38) = w4 at *
  clear e3 hsz hr2
  go_wp2_with fail
  refine (unhide QO _ (unhide HC) 40 (by omega) (by omega)).mono ?_
  rintro e w5 ⟨b, rfl, hC, hK⟩
  replace HC := hide hC
  replace HR := hide ((unhide HR).kept hK h2c)
  replace HX := hide ((unhide HX).kept hK h3c)
  replace HK := hide ((unhide HK).trans hK)
  clear hC hK QO
  cases b with
  | false =>
    have c0 := (unhide HX).cell (i := 0) rfl
    have c1 := (unhide HX).cell (i := 1) rfl
    have c2 := (unhide HX).cell (i := 2) rfl
    have f := (unhide HR).frozen
    have r0 := (unhide HR).cell (i := 0) rfl
    have r1 := (unhide HR).cell (i := 1) rfl
    have r2 := (unhide HR).cell (i := 2) rfl
    go_wp2
    refine bodyPost_ret (v := v3 (x, y, z)) (by simp [results, Try.results34, go_sem, v3, *]) rfl ⟨x, y, z, rfl, ?_, ?_⟩
    · exact curSet (curSet (curSet (unhide HC) (by omega)) (by omega)) (by omega)
    · exact keptSet (keptSet (keptSet (unhide HK) h2w) h2w) h2w
  | true =>
    have hA := Below.alloc1 w5 (.cells #[.int .i64 (-1), .int .i64 19, .int .i64 20] 3)
    have HP := hide (ownV_alloc w5 #[.int .i64 (-1), .int .i64 19, .int .i64 20] 3)
    have hl5 := (unhide HC).lt
    replace HC := hide ((unhide HC).below hA)
    replace HR := hide ((unhide HR).step hA)
    replace HX := hide ((unhide HX).step hA)
    replace HK := hide ((unhide HK).trans (kept_of_below hA))
    have QP := hide (l1PickInt_any cb n v w5.heap.size 3 [-1, 19, 20] _ (unhide HC) hn (unhide HP) (by omega) rfl (by omega) (by omega))
    clear hA HP
    go_wp2_with fail
    refine (unhide QP).mono ?_
    rintro e w6 ⟨t, rfl, hC, hK⟩
    replace HC := hide hC
    replace HR := hide ((unhide HR).kept hK h2c)
    replace HX := hide ((unhide HX).kept hK h3c)
    replace HK := hide ((unhide HK).trans hK)
    clear hC hK QP
    have f3 := (unhide HX).frozen 2
    have c2 := (unhide HX).cell (i := 2) rfl
    have HX2 := hide ((unhide HX).set 2 (.int .i64 t) (by simp))
    have HC2 := hide (curSet (i := 2) (u := .int .i64 t) (unhide HC) (show cb < g3 by omega))
    have HK2 := hide (keptSet (i := 2) (u := .int .i64 t) (unhide HK) h3w)
    have HR2 := hide ((unhide HR).other (a := ⟨g3, 2, none⟩) h23 (.int .i64 t))
    go_upto_region 4 with (fail)
    generalize w6.setCell ⟨g3, 2, none⟩ (.int .i64 t) = w7 at *
    clear HX HC HK HR f3 c2
    have c0 := (unhide HX2).cell (i := 0) rfl
    have c1 := (unhide HX2).cell (i := 1) rfl
    have c2 := (unhide HX2).cell (i := 2) rfl
    have f := (unhide HR2).frozen
    have r0 := (unhide HR2).cell (i := 0) rfl
    have r1 := (unhide HR2).cell (i := 1) rfl
    have r2 := (unhide HR2).cell (i := 2) rfl
    go_wp2
    refine bodyPost_ret (v := v3 (x, y, t)) (by simp [results, Try.results34, go_sem, v3, *]) rfl ⟨x, y, t, rfl, ?_, ?_⟩
    · exact curSet (curSet (curSet (unhide HC2) (by omega)) (by omega)) (by omega)
    · exact keptSet (keptSet (keptSet (unhide HK2) h2w) h2w) h2w

end Go.Proofs.Ytnfdokcpjcnknaa

/- Appends of records as steps of drawn regions. No statement about the program stands here. -/
namespace Go.Proofs.Ytnfdokcpjcnknaa
open Go.RowKit

theorem step_appRow {α : Type} [Inhabited α] {n : Nat} {enc : α → Nat → Value} {St T : TypeId} (hty : RecTy St T n enc) (w : World) {ops : Array Oper} {o : Oper} {a : Act} {K : Act → World → Prop} {Q : Exit → Act → World → Prop} {E : Prop} (hgd : o.guard = none) (s x : Operand)
    (ho : o.op = .call { callee := .builtin .append, args := #[s, x], argTypes := #[St, St] })
    (B : Nat) (ao : Option Addr) (m cap : Nat) (L : List α) (hs : a.eval s = .slice ao m cap) (h : RowB T n enc B w ao m cap L) (hB : B ≤ w.heap.size) (hm : m ≤ 1048576) (G : Nat) (b : α) (c : Nat) (hx : a.eval x = .slice (some ⟨G, 0, none⟩) 1 c) (hG : OwnV w G ((List.range n).map (enc b)))
    (hK : ∀ g' cap' w', RowB T n enc B w' (some ⟨g', 0, none⟩) (m + 1) cap' (L ++ [b]) → Kept (fun k => ao = some ⟨k, 0, none⟩) w w' → B ≤ g' → (ao = some ⟨g', 0, none⟩ ∨ g' = w.heap.size) → K (a.put o.dst (.slice (some ⟨g', 0, none⟩) (m + 1) cap')) w') :
    if Region.wanted o (yielded ops a.tmps) = true then Oper.wp Try.prog o a w K Q else E := by
  obtain ⟨i0, z, bytes, hinf, hz0, hz1, hz2, hz3, hby⟩ := hty.inf
  have hbb : (m + 1) * bytes ≤ 140737488355328 := by
    have : (m + 1) * bytes ≤ 1048577 * 1000 := Nat.mul_le_mul (by omega) hby
    omega
  refine step_append_lies w hgd s x St ho B T i0 z n bytes hty.und hinf hz0 hz1 hz2 hz3 hty.pos _ m (recCells n enc L) hs h ⟨G, 0, none⟩ 1 c ((List.range n).map (enc b)) hx (by simp) (fun j u hu => by
    have ha : (⟨G, 0, none⟩ : Addr).add j = ⟨G, j, none⟩ := by unfold Addr.add; split <;> simp_all
    rw [ha]
    exact hG.cell hu) (fun u hu => by
      obtain ⟨j, hj, rfl⟩ := List.mem_map.1 hu
      exact hty.one _ _ (by simpa using hj)) (by omega) (by unfold maxLen; omega) hbb hB _ rfl ?_
  intro g' cap' w' h2 h3 h4 _
  have hob : ∀ k, (Value.slice ao m cap).ownBlock = some k → ao = some ⟨k, 0, none⟩ := fun k hk => by
    rcases h.parts hty.pos with ⟨rfl, _⟩ | ⟨g, rfl, _⟩
    · simp [Value.ownBlock] at hk
    · simp [Value.ownBlock] at hk; rw [hk]
  have hr : RowB T n enc B w' (some ⟨g', 0, none⟩) (m + 1) cap' (L ++ [b]) := by
    unfold RowB
    rw [recCells_append n hty.pos, recCells_one]
    exact h2
  have hBg : B ≤ g' := by
    rcases hr.parts hty.pos with ⟨e, _⟩ | ⟨g, e, hBg, _⟩
    · cases e
    · simp only [Option.some.injEq, Addr.mk.injEq, and_true] at e
      omega
  exact hK g' cap' w' hr ⟨h3.os, h3.tape, h3.output, h3.size, fun k hk hn => h3.block k hk (fun e => hn (hob k e.symm))⟩ hBg (h4.imp (hob g') id)

/-- Any number of records more, none too. -/
theorem step_appAll {α : Type} [Inhabited α] {n : Nat} {enc : α → Nat → Value} {St T : TypeId} (hty : RecTy St T n enc) (w : World) {ops : Array Oper} {o : Oper} {a : Act} {K : Act → World → Prop} {Q : Exit → Act → World → Prop} {E : Prop} (hgd : o.guard = none) (s x : Operand)
    (ho : o.op = .call { callee := .builtin .append, args := #[s, x], argTypes := #[St, St] })
    (B : Nat) (ao : Option Addr) (m cap : Nat) (L : List α) (hs : a.eval s = .slice ao m cap) (h : RowB T n enc B w ao m cap L) (hB : B ≤ w.heap.size) (hm : m ≤ 1048576) (xo : Option Addr) (k c : Nat) (M : List α) (hx : a.eval x = .slice xo k c) (hX : RecsIn n enc w (.slice xo k c) M) (hk : k ≤ 1048576)
    (hK : ∀ ao' cap' w', RowB T n enc B w' ao' (m + k) cap' (L ++ M) → Kept (fun b => ao = some ⟨b, 0, none⟩) w w' → K (a.put o.dst (.slice ao' (m + k) cap')) w') :
    if Region.wanted o (yielded ops a.tmps) = true then Oper.wp Try.prog o a w K Q else E := by
  have hw : Region.wanted o (yielded ops a.tmps) = true := by simp [Region.wanted, hgd]
  obtain ⟨i0, z, bytes, hinf, hz0, hz1, hz2, hz3, hby⟩ := hty.inf
  have hbb : (m + k) * bytes ≤ 140737488355328 := by
    have : (m + k) * bytes ≤ 2097152 * 1000 := Nat.mul_le_mul (by omega) hby
    omega
  have hkl : M.length = k := by
    obtain ⟨_, _, e, _⟩ := hX
    simp only [Value.slice.injEq] at e
    exact e.2.1.symm
  by_cases hk0 : k = 0
  · subst hk0
    have hM : M = [] := List.length_eq_zero_iff.1 hkl
    subst hM
    rw [List.append_nil] at hK
    rw [if_pos hw]
    rcases h.parts hty.pos with ⟨rfl, rfl, rfl, rfl⟩ | ⟨g, rfl, _, _, hc, hcm, _⟩
    · have hrun := run_append_none (P := Try.prog) w St o.type T i0 hty.und hinf c xo
      unfold Oper.wp
      simp [execOp, ho, resolve, invoke, builtin, hs, hx, hrun, Result.andThen]
      exact hK none 0 w h (Kept.refl _ _)
    · have hrun := run_append_zer (P := Try.prog) w St o.type T i0 hty.und hinf ⟨g, 0, none⟩ m cap c xo hc
      unfold Oper.wp
      simp [execOp, ho, resolve, invoke, builtin, hs, hx, hrun, Result.andThen]
      exact hK _ cap w h (Kept.refl _ _)
  · obtain ⟨ad, rfl, hsrc⟩ := recs_src hX (by omega)
    refine step_append_lies w hgd s x St ho B T i0 z n bytes hty.und hinf hz0 hz1 hz2 hz3 hty.pos _ m (recCells n enc L) hs h ad k c (recCells n enc M) hx (by rw [recCells_length, hkl]) hsrc (hty.cells M) (by omega) (by unfold maxLen; omega) hbb hB _ rfl ?_
    intro g' cap' w' h2 h3 h4 _
    have hob : ∀ k, (Value.slice ao m cap).ownBlock = some k → ao = some ⟨k, 0, none⟩ := fun k hk => by
      rcases h.parts hty.pos with ⟨rfl, _⟩ | ⟨g, rfl, _⟩
      · simp [Value.ownBlock] at hk
      · simp [Value.ownBlock] at hk; rw [hk]
    refine hK _ cap' w' ?_ ⟨h3.os, h3.tape, h3.output, h3.size, fun k hk hn => h3.block k hk (fun e => hn (hob k e.symm))⟩
    unfold RowB
    rw [recCells_append n hty.pos]
    exact h2

end Go.Proofs.Ytnfdokcpjcnknaa

/- A list that is muddled. Written by wip/mkvoc.py. No statement about the program stands here. -/
namespace Go.Proofs.Ytnfdokcpjcnknaa
open Go.RowKit

/-- A list that is muddled: a row of the call's own still; all but the cursor and the list's own block as it was. -/
def MuAns (cb n : Nat) (v : Value) (B : Nat) (ro : Option Addr) (w : World) (e : Ending) (w' : World) : Prop := ∃ ro' m' c' L', e = .returned (.slice ro' m' c') ∧ m' ≤ 11 ∧ RowB 40 9 eStow B w' ro' m' c' L' ∧ Cur w' cb v n ∧ Kept (fun b => b = cb ∨ ro = some ⟨b, 0, none⟩) w w'
/-- What is held along the way. -/
structure Mu3 (cb n : Nat) (v : Value) (B : Nat) (w W : World) (ro : Option Addr) (m c : Nat) (L : List StowT) : Prop where
  row : RowB 40 9 eStow B W ro m c L
  cur : Cur W cb v n
  kept : Kept (fun b => b = cb ∨ ro = some ⟨b, 0, none⟩) w W
section
variable {cb n : Nat} {v : Value} {B : Nat} {w W W' : World} {ro ro' : Option Addr} {m c g k : Nat} {L : List StowT}
theorem mu_mk (h1 : m ≤ 11) (h2 : RowB 40 9 eStow B W ro' m c L) (h3 : Cur W cb v n) (h4 : Kept (fun b => b = cb ∨ ro = some ⟨b, 0, none⟩) w W) : MuAns cb n v B ro w (.returned (.slice ro' m c)) W := ⟨ro', m, c, L, rfl, h1, h2, h3, h4⟩
theorem Mu3.ans (h : Mu3 cb n v B w W ro m c L) (h1 : m ≤ 11) : MuAns cb n v B ro w (.returned (.slice ro m c)) W := mu_mk h1 h.row h.cur h.kept
theorem Mu3.draw (h : Mu3 cb n v B w W ro m c L) (hcB : cb < B) (hC : Cur W' cb v n) (hK : Kept (fun b => b = cb) W W') : Mu3 cb n v B w W' ro m c L := ⟨h.row.kept hK (fun g _ hg _ e => by omega), hC, h.kept.trans (hK.mono (fun _ _ h => Or.inl h))⟩
theorem Mu3.own (h : Mu3 cb n v B w W (some ⟨g, 0, none⟩) m c L) : B ≤ g ∧ g < W.heap.size ∧ m ≤ c ∧ c ≤ maxLen ∧ OwnV W g (recCells 9 eStow L) := by
  rcases h.row.parts (by omega) with ⟨e, _⟩ | ⟨g', e, h1, h2, h3, h4, h5⟩
  · cases e
  · simp only [Option.some.injEq, Addr.mk.injEq, and_true] at e
    subst e
    exact ⟨h1, h2, h3, h4, h5⟩
theorem Mu3.cell (h : Mu3 cb n v B w W (some ⟨g, 0, none⟩) m c L) (hk : k < L.length) {j : Nat} (hj : j < 9) : W.cell? ⟨g, k * 9 + j, none⟩ = some (eStow (L.getD k default) j) := h.own.2.2.2.2.cell (recCells_get (n := 9) (enc := eStow) hk hj)
theorem Mu3.put (h : Mu3 cb n v B w W (some ⟨g, 0, none⟩) m c L) (hcB : cb < B) (hk : k < L.length) {j : Nat} (hj : j < 9) (y : StowT) (u : Value) (hu : eStow y j = u) (hy : ∀ j', j' < 9 → j' ≠ j → eStow y j' = eStow (L.getD k default) j') :
    Mu3 cb n v B w (W.setCell ⟨g, k * 9 + j, none⟩ u) (some ⟨g, 0, none⟩) m c (L.set k y) :=
  ⟨h.row.set hj hk y u hu hy, curSet h.cur (by have := h.own.1; omega), h.kept.setCell (p := ⟨g, k * 9 + j, none⟩) (Or.inr rfl) u⟩
theorem nine (j : Nat) (h : j < 9) : j = 0 ∨ j = 1 ∨ j = 2 ∨ j = 3 ∨ j = 4 ∨ j = 5 ∨ j = 6 ∨ j = 7 ∨ j = 8 := by omega
theorem Mu3.putI (h : Mu3 cb n v B w W (some ⟨g, 0, none⟩) m c L) (hcB : cb < B) (hk : k < m) (j : Nat) (hj : j = 1 ∨ j = 2 ∨ j = 4 ∨ j = 5 ∨ j = 6 ∨ j = 7 ∨ j = 8) (z : Int) : ∃ M, Mu3 cb n v B w (W.setCell ⟨g, k * 9 + j, none⟩ (.int .i64 z)) (some ⟨g, 0, none⟩) m c M := by
  have hl : k < L.length := by rw [h.row.len (by omega)]; exact hk
  obtain ⟨s, wt, cl, co, fr, tt, sx, sy, sz, e⟩ : ∃ s wt cl co fr tt sx sy sz, L.getD k default = (s, wt, cl, co, fr, tt, sx, sy, sz) := ⟨_, _, _, _, _, _, _, _, _, rfl⟩
  rcases hj with rfl | rfl | rfl | rfl | rfl | rfl | rfl
  · exact ⟨_, h.put hcB hl (j := 1) (by omega) (s, z, cl, co, fr, tt, sx, sy, sz) _ rfl (fun j' h1 h2 => by rw [e]; rcases nine j' h1 with rfl | rfl | rfl | rfl | rfl | rfl | rfl | rfl | rfl <;> first | rfl | exact absurd rfl h2)⟩
  · exact ⟨_, h.put hcB hl (j := 2) (by omega) (s, wt, z, co, fr, tt, sx, sy, sz) _ rfl (fun j' h1 h2 => by rw [e]; rcases nine j' h1 with rfl | rfl | rfl | rfl | rfl | rfl | rfl | rfl | rfl <;> first | rfl | exact absurd rfl h2)⟩
  · exact ⟨_, h.put hcB hl (j := 4) (by omega) (s, wt, cl, co, z, tt, sx, sy, sz) _ rfl (fun j' h1 h2 => by rw [e]; rcases nine j' h1 with rfl | rfl | rfl | rfl | rfl | rfl | rfl | rfl | rfl <;> first | rfl | exact absurd rfl h2)⟩
  · exact ⟨_, h.put hcB hl (j := 5) (by omega) (s, wt, cl, co, fr, z, sx, sy, sz) _ rfl (fun j' h1 h2 => by rw [e]; rcases nine j' h1 with rfl | rfl | rfl | rfl | rfl | rfl | rfl | rfl | rfl <;> first | rfl | exact absurd rfl h2)⟩
  · exact ⟨_, h.put hcB hl (j := 6) (by omega) (s, wt, cl, co, fr, tt, z, sy, sz) _ rfl (fun j' h1 h2 => by rw [e]; rcases nine j' h1 with rfl | rfl | rfl | rfl | rfl | rfl | rfl | rfl | rfl <;> first | rfl | exact absurd rfl h2)⟩
  · exact ⟨_, h.put hcB hl (j := 7) (by omega) (s, wt, cl, co, fr, tt, sx, z, sz) _ rfl (fun j' h1 h2 => by rw [e]; rcases nine j' h1 with rfl | rfl | rfl | rfl | rfl | rfl | rfl | rfl | rfl <;> first | rfl | exact absurd rfl h2)⟩
  · exact ⟨_, h.put hcB hl (j := 8) (by omega) (s, wt, cl, co, fr, tt, sx, sy, z) _ rfl (fun j' h1 h2 => by rw [e]; rcases nine j' h1 with rfl | rfl | rfl | rfl | rfl | rfl | rfl | rfl | rfl <;> first | rfl | exact absurd rfl h2)⟩
theorem Mu3.putT (h : Mu3 cb n v B w W (some ⟨g, 0, none⟩) m c L) (hcB : cb < B) (hk : k < m) (z : ByteArray) : ∃ M, Mu3 cb n v B w (W.setCell ⟨g, k * 9, none⟩ (.string z)) (some ⟨g, 0, none⟩) m c M := by
  have hl : k < L.length := by rw [h.row.len (by omega)]; exact hk
  obtain ⟨s, wt, cl, co, fr, tt, sx, sy, sz, e⟩ : ∃ s wt cl co fr tt sx sy sz, L.getD k default = (s, wt, cl, co, fr, tt, sx, sy, sz) := ⟨_, _, _, _, _, _, _, _, _, rfl⟩
  exact ⟨_, h.put hcB hl (j := 0) (by omega) (z, wt, cl, co, fr, tt, sx, sy, sz) _ rfl (fun j' h1 h2 => by rw [e]; rcases nine j' h1 with rfl | rfl | rfl | rfl | rfl | rfl | rfl | rfl | rfl <;> first | rfl | exact absurd rfl h2)⟩
theorem Mu3.putB (h : Mu3 cb n v B w W (some ⟨g, 0, none⟩) m c L) (hcB : cb < B) (hk : k < m) (z : Bool) : ∃ M, Mu3 cb n v B w (W.setCell ⟨g, k * 9 + 3, none⟩ (.bool z)) (some ⟨g, 0, none⟩) m c M := by
  have hl : k < L.length := by rw [h.row.len (by omega)]; exact hk
  obtain ⟨s, wt, cl, co, fr, tt, sx, sy, sz, e⟩ : ∃ s wt cl co fr tt sx sy sz, L.getD k default = (s, wt, cl, co, fr, tt, sx, sy, sz) := ⟨_, _, _, _, _, _, _, _, _, rfl⟩
  exact ⟨_, h.put hcB hl (j := 3) (by omega) (s, wt, cl, z, fr, tt, sx, sy, sz) _ rfl (fun j' h1 h2 => by rw [e]; rcases nine j' h1 with rfl | rfl | rfl | rfl | rfl | rfl | rfl | rfl | rfl <;> first | rfl | exact absurd rfl h2)⟩
section
variable {α : Type} [Inhabited α] {q : Nat} {enc : α → Nat → Value} {ba : Option Addr} {A : List α}
theorem recsV_len (h : RecsIn q enc w (.slice ba m c) A) : A.length = m ∧ m ≤ c ∧ c ≤ maxLen := by
  obtain ⟨ao, c, e, h1, h2, _⟩ := h
  simp only [Value.slice.injEq] at e
  obtain ⟨rfl, rfl, rfl⟩ := e
  exact ⟨rfl, h1, h2⟩
theorem recsV_drop (h : RecsIn q enc w (.slice ba m c) A) : RecsIn q enc w (.slice (if c = k then ba else ba.map (·.add (k * q))) (m - k) (c - k)) (A.drop k) := by
  obtain ⟨hm, hc, hx⟩ := recsV_len h
  obtain ⟨ao, c, e, _, _, h3⟩ := h
  simp only [Value.slice.injEq] at e
  obtain ⟨rfl, _, rfl⟩ := e
  refine ⟨_, _, by rw [List.length_drop, hm], by rw [List.length_drop]; omega, by omega, fun i hi => ?_⟩
  rw [List.length_drop] at hi
  obtain ⟨b, o, rfl, hcl⟩ := h3 (k + i) (by omega)
  refine ⟨b, o + k * q, ?_, fun j hj => ?_⟩
  · rw [if_neg (by omega), Option.map_some, Go.WideShapes.add_plain]
  · rw [show o + k * q + (i * q + j) = o + ((k + i) * q + j) by rw [Nat.add_mul]; omega, hcl j hj, getD_lt (by omega), getD_lt (by rw [List.length_drop]; omega), List.getElem_drop]
theorem recsV_take (h : RecsIn q enc w (.slice ba m c) A) (hk : k ≤ m) : RecsIn q enc w (.slice ba k c) (A.take k) := by
  obtain ⟨hm, hc, hx⟩ := recsV_len h
  obtain ⟨ao, c, e, _, _, h3⟩ := h
  simp only [Value.slice.injEq] at e
  obtain ⟨rfl, _, rfl⟩ := e
  have hl : (A.take k).length = k := by rw [List.length_take]; omega
  refine ⟨_, _, by rw [hl], by omega, by omega, fun i hi => ?_⟩
  obtain ⟨b, o, rfl, hcl⟩ := h3 i (by omega)
  refine ⟨b, o, rfl, fun j hj => ?_⟩
  rw [hcl j hj, getD_lt (by omega), getD_lt (by omega), List.getElem_take]
end
end


set_option maxRecDepth 100000 in
set_option maxHeartbeats 12800000 in
theorem l12Muddle_any (cb n : Nat) (v : Value) (ro : Option Addr) (m c : Nat) (L : List StowT) (B : Nat) (w : World) (h : Cur w cb v n) (hn : n ≤ 1048576) (hR : RowB 40 9 eStow B w ro m c L) (hcB : cb < B) (hm : m ≤ 10) :
    Calls Try.prog 16 #[.pointer (some ⟨cb, 0, none⟩), .slice ro m c] w fun e w' => MuAns cb n v B ro w e w' := by
  have QB := hide fun W (hW : Cur W cb v n) k h0 => l1BelowG_any cb n v k W hW hn h0
  have QO := hide fun W (hW : Cur W cb v n) k h0 h1 => l1Once_any cb n v k W hW hn h0 h1
  have QS := hide fun W (hW : Cur W cb v n) => l11DrawSpot_any cb n v W hW hn
  have QA := hide fun W (hW : Cur W cb v n) => l11DrawAny_any cb n v W hW hn
  have HM : Hid (Mu3 cb n v B w w ro m c L) := ⟨hR, h, Kept.refl _ w⟩
  clear h hR
  by_cases hm0 : m = 0
  · subst hm0
    go_enter Try.func16, Try.ntmps16
    go_wp2
    go_ret
    exact (unhide HM).ans (by omega)
  obtain ⟨g, rfl⟩ : ∃ g, ro = some ⟨g, 0, none⟩ := by
    rcases (unhide HM).row.parts (by omega) with ⟨_, e, _⟩ | ⟨g', e, _⟩
    · exact absurd e hm0
    · exact ⟨g', e⟩
  have hmb : ((m : Int) == 0) = false := by simpa using hm0
  have hmi : (0 : Int) < (m : Int) := by omega
  go_enter Try.func16, Try.ntmps16
  go_wp2_with fail
  refine (unhide QO _ (unhide HM).cur 4 (by omega) (by omega)).mono ?_
  rintro e W1 ⟨q, rfl, hC, hK⟩
  replace HM := hide ((unhide HM).draw hcB hC hK)
  clear hC hK
  cases q
  · go_wp2
    go_ret
    exact (unhide HM).ans (by omega)
  go_wp2_with fail
  refine (unhide QB _ (unhide HM).cur (m : Int) (by omega)).mono ?_
  rintro e W2 ⟨k1, rfl, hk0, hk1, hC, hK⟩
  replace HM := hide ((unhide HM).draw hcB hC hK)
  clear hC hK
  obtain ⟨k, rfl⟩ : ∃ k : Nat, k1 = (k : Int) := ⟨k1.toNat, by omega⟩
  have hkm : k < m := by omega
  go_wp2_with fail
  refine (unhide QB _ (unhide HM).cur 6 (by omega)).mono ?_
  rintro e W3 ⟨t, rfl, ht0, ht1, hC, hK⟩
  replace HM := hide ((unhide HM).draw hcB hC hK)
  clear hC hK QB QO
  have hLl : Hid (L.length = m) := (unhide HM).row.len (by omega)
  have hkL : k < L.length := by rw [unhide hLl]; exact hkm
  obtain ⟨h5a, h5b, h5c, h5d, -⟩ := (unhide HM).own
  have h5e : (k : Int) ≤ c := by omega
  obtain ⟨s, wt, cl, co, fr, tt, sx, sy, sz, EX⟩ : ∃ s wt cl co fr tt sx sy sz, Hid (L.getD k default = (s, wt, cl, co, fr, tt, sx, sy, sz)) := ⟨_, _, _, _, _, _, _, _, _, rfl⟩
  have HCE := hide fun V M (h9 : Mu3 cb n v B w V (some ⟨g, 0, none⟩) m c M) => h9.own.2.2.2.2.frozen

  have h6 : t = 0 ∨ t = 1 ∨ t = 2 ∨ t = 3 ∨ t = 4 ∨ t = 5 := by omega
  clear ht0 ht1
  rcases h6 with rfl | rfl | rfl | rfl | rfl | rfl
  · go_wp2_with fail
    refine (unhide QS _ (unhide HM).cur).mono ?_
    rintro e W4 ⟨x, y, z, rfl, hC, hK⟩
    replace HM := hide ((unhide HM).draw hcB hC hK)
    clear hC hK
    unfold v3
    have c6 : W4.cell? ⟨g, k * 9 + 6, none⟩ = some (.int .i64 sx) := by have h9 := (unhide HM).cell hkL (j := 6) (by omega); rw [unhide EX] at h9; exact h9
    have c7 : W4.cell? ⟨g, k * 9 + 7, none⟩ = some (.int .i64 sy) := by have h9 := (unhide HM).cell hkL (j := 7) (by omega); rw [unhide EX] at h9; exact h9
    have c8 : W4.cell? ⟨g, k * 9 + 8, none⟩ = some (.int .i64 sz) := by have h9 := (unhide HM).cell hkL (j := 8) (by omega); rw [unhide EX] at h9; exact h9
    have cf := (unhide HCE) _ _ (unhide HM)
    obtain ⟨M6, hp6⟩ := (unhide HM).putI hcB hkm 6 (by omega) (x)
    have HP6 := hide hp6
    clear hp6
    obtain ⟨M7, hp7⟩ := (unhide HP6).putI hcB hkm 7 (by omega) (y)
    have HP7 := hide hp7
    clear hp7
    obtain ⟨M8, hp8⟩ := (unhide HP7).putI hcB hkm 8 (by omega) (z)
    have HP8 := hide hp8
    clear hp8
    go_wp2
    go_ret
    exact (unhide HP8).ans (by omega)
  · go_wp2_with fail
    refine (unhide QA _ (unhide HM).cur).mono ?_
    rintro e W4 ⟨s', wt', cl', co', fr', to', rfl, hC, hK⟩
    replace HM := hide ((unhide HM).draw hcB hC hK)
    clear hC hK
    unfold vBox
    have c0 : W4.cell? ⟨g, k * 9, none⟩ = some (.string s) := by have h9 := (unhide HM).cell hkL (j := 0) (by omega); rw [unhide EX] at h9; exact h9
    have c1 : W4.cell? ⟨g, k * 9 + 1, none⟩ = some (.int .i64 wt) := by have h9 := (unhide HM).cell hkL (j := 1) (by omega); rw [unhide EX] at h9; exact h9
    have c2 : W4.cell? ⟨g, k * 9 + 2, none⟩ = some (.int .i64 cl) := by have h9 := (unhide HM).cell hkL (j := 2) (by omega); rw [unhide EX] at h9; exact h9
    have c3 : W4.cell? ⟨g, k * 9 + 3, none⟩ = some (.bool co) := by have h9 := (unhide HM).cell hkL (j := 3) (by omega); rw [unhide EX] at h9; exact h9
    have c4 : W4.cell? ⟨g, k * 9 + 4, none⟩ = some (.int .i64 fr) := by have h9 := (unhide HM).cell hkL (j := 4) (by omega); rw [unhide EX] at h9; exact h9
    have c5 : W4.cell? ⟨g, k * 9 + 5, none⟩ = some (.int .i64 tt) := by have h9 := (unhide HM).cell hkL (j := 5) (by omega); rw [unhide EX] at h9; exact h9
    have cf := (unhide HCE) _ _ (unhide HM)
    obtain ⟨M0, hp0⟩ := (unhide HM).putT hcB hkm (s')
    have HP0 := hide hp0
    clear hp0
    obtain ⟨M1, hp1⟩ := (unhide HP0).putI hcB hkm 1 (by omega) (wt')
    have HP1 := hide hp1
    clear hp1
    obtain ⟨M2, hp2⟩ := (unhide HP1).putI hcB hkm 2 (by omega) (cl')
    have HP2 := hide hp2
    clear hp2
    obtain ⟨M3, hp3⟩ := (unhide HP2).putB hcB hkm (co')
    have HP3 := hide hp3
    clear hp3
    obtain ⟨M4, hp4⟩ := (unhide HP3).putI hcB hkm 4 (by omega) (fr')
    have HP4 := hide hp4
    clear hp4
    obtain ⟨M5, hp5⟩ := (unhide HP4).putI hcB hkm 5 (by omega) (to')
    have HP5 := hide hp5
    clear hp5
    go_wp2
    go_ret
    exact (unhide HP5).ans (by omega)
  · have c0 : W3.cell? ⟨g, k * 9, none⟩ = some (.string s) := by have h9 := (unhide HM).cell hkL (j := 0) (by omega); rw [unhide EX] at h9; exact h9
    have c1 : W3.cell? ⟨g, k * 9 + 1, none⟩ = some (.int .i64 wt) := by have h9 := (unhide HM).cell hkL (j := 1) (by omega); rw [unhide EX] at h9; exact h9
    have c2 : W3.cell? ⟨g, k * 9 + 2, none⟩ = some (.int .i64 cl) := by have h9 := (unhide HM).cell hkL (j := 2) (by omega); rw [unhide EX] at h9; exact h9
    have c3 : W3.cell? ⟨g, k * 9 + 3, none⟩ = some (.bool co) := by have h9 := (unhide HM).cell hkL (j := 3) (by omega); rw [unhide EX] at h9; exact h9
    have c4 : W3.cell? ⟨g, k * 9 + 4, none⟩ = some (.int .i64 fr) := by have h9 := (unhide HM).cell hkL (j := 4) (by omega); rw [unhide EX] at h9; exact h9
    have c5 : W3.cell? ⟨g, k * 9 + 5, none⟩ = some (.int .i64 tt) := by have h9 := (unhide HM).cell hkL (j := 5) (by omega); rw [unhide EX] at h9; exact h9
    have c6 : W3.cell? ⟨g, k * 9 + 6, none⟩ = some (.int .i64 sx) := by have h9 := (unhide HM).cell hkL (j := 6) (by omega); rw [unhide EX] at h9; exact h9
    have c7 : W3.cell? ⟨g, k * 9 + 7, none⟩ = some (.int .i64 sy) := by have h9 := (unhide HM).cell hkL (j := 7) (by omega); rw [unhide EX] at h9; exact h9
    have c8 : W3.cell? ⟨g, k * 9 + 8, none⟩ = some (.int .i64 sz) := by have h9 := (unhide HM).cell hkL (j := 8) (by omega); rw [unhide EX] at h9; exact h9
    have cf := (unhide HCE) _ _ (unhide HM)
    have A := Below.alloc1 W3 (.cells #[.string s, .int .i64 wt, .int .i64 cl, .bool co, .int .i64 fr, .int .i64 tt, .int .i64 sx, .int .i64 sy, .int .i64 sz] 40)
    have HG := hide (ownV_alloc W3 #[.string s, .int .i64 wt, .int .i64 cl, .bool co, .int .i64 fr, .int .i64 tt, .int .i64 sx, .int .i64 sy, .int .i64 sz] 40)
    have HR := hide ((unhide HM).row.below A)
    have HCu := hide ((unhide HM).cur.below A)
    have HKp := hide ((unhide HM).kept.trans (kept_of_below A))
    clear A
    go_wp2_with (at_builtin; go_must (refine wpList_appRow tyStow _ rfl (.tmp 39) (.tmp 44) rfl B (some ⟨g, 0, none⟩) m c L rfl (unhide HR) (by have := (Below.alloc1 W3 (.cells #[.string s, .int .i64 wt, .int .i64 cl, .bool co, .int .i64 fr, .int .i64 tt, .int .i64 sx, .int .i64 sy, .int .i64 sz] 40)).size; omega) (by omega) W3.heap.size (s, wt, cl, co, fr, tt, sx, sy, sz) 1 rfl (unhide HG) ?_); intro g' cap' w' hL hKp hBg hat; have HA := hide (mu_mk (m := m + 1) (by omega) hL (curRow (unhide HCu) (unhide HR) (by omega) hcB hKp) ((unhide HKp).trans (hKp.mono (fun _ _ e => Or.inr e)))); clear hL hKp hBg hat)
    go_ret
    exact unhide HA
  · have c8 : W3.cell? ⟨g, k * 9 + 8, none⟩ = some (.int .i64 sz) := by have h9 := (unhide HM).cell hkL (j := 8) (by omega); rw [unhide EX] at h9; exact h9
    have cf := (unhide HCE) _ _ (unhide HM)
    obtain ⟨z, ez⟩ : ∃ z, IntKind.i64.wrap (sz + 1) = z := ⟨_, rfl⟩
    obtain ⟨M8, hp8⟩ := (unhide HM).putI hcB hkm 8 (by omega) (z)
    have HP8 := hide hp8
    clear hp8
    go_wp2
    go_ret
    exact (unhide HP8).ans (by omega)
  · have c3 : W3.cell? ⟨g, k * 9 + 3, none⟩ = some (.bool co) := by have h9 := (unhide HM).cell hkL (j := 3) (by omega); rw [unhide EX] at h9; exact h9
    have cf := (unhide HCE) _ _ (unhide HM)
    obtain ⟨M3, hp3⟩ := (unhide HM).putB hcB hkm (true)
    have HP3 := hide hp3
    clear hp3
    go_wp2
    go_ret
    exact (unhide HP3).ans (by omega)
  · clear QS QA HCE EX
    have HN := hide (rowB_new 40 9 eStow W3 W3.heap.size (Nat.le_refl _))
    have HRE := hide ((unhide HM).row.recs (by omega))
    obtain ⟨da, eda⟩ : ∃ da : Option Addr, da = (if c = k then some ⟨g, 0, none⟩ else (some ⟨g, 0, none⟩ : Option Addr).map (·.add (k * 9))) := ⟨_, rfl⟩
    have hkk : (k : Int) ≤ m := by omega
    have hsl : ∀ V, (Instr.slice 25 (.slice (some ⟨g, 0, none⟩) m c) (some (.int .i64 (k : Int))) none none).run Try.prog V = .ok (.slice da (m - k) (c - k)) V := fun V => by
      rw [eda]
      simp [go_sem, hkk]
    have hsl2 : ∀ V, (Instr.sliceAt 25 (.slice (some ⟨g, 0, none⟩) m c) (some (.int .i64 (k : Int))) none none).run Try.prog V = .ok (.slice da (m - k) (c - k)) V := fun V => by
      rw [eda]
      simp [go_sem, hkk]
    have hsm : ∀ V, (Instr.slice 25 (.slice (some ⟨g, 0, none⟩) m c) none (some (.int .i64 (k : Int))) none).run Try.prog V = .ok (.slice (some ⟨g, 0, none⟩) k c) V := fun V => by simp [go_sem, h5e, Addr.add]
    have hsm2 : ∀ V, (Instr.sliceAt 25 (.slice (some ⟨g, 0, none⟩) m c) none (some (.int .i64 (k : Int))) none).run Try.prog V = .ok (.slice (some ⟨g, 0, none⟩) k c) V := fun V => by simp [go_sem, h5e, Addr.add]
    have HRD0 := hide (recsV_drop (k := k) (unhide HRE))
    rw [← eda] at HRD0
    have HRD := hide (RecsIn.below (unhide HRD0) (Below.alloc1 W3 (.cells #[] 40)))
    have HRT := hide (recsV_take (k := k) (unhide HRE) (by omega))
    have hBW : B ≤ W3.heap.size := by omega
    clear eda HRE HRD0
    go_upto_region 16 with (fail)
    go_region_law (first | (refine step_appAll tyStow _ (by rfl) (.tmp 69) (.tmp 72) (by rfl) W3.heap.size (some ⟨W3.heap.size, 0, none⟩) 0 0 [] (by rfl) (by first | exact unhide HN | exact (unhide HN).below (Below.refl _ _).drew) (by first | exact (Below.alloc1 _ _).size | exact (Below.alloc1 _ _).drew.size) (by omega) da (m - k) (c - k) (L.drop k) (by rfl) (by first | exact unhide HRD | exact RecsIn.below (unhide HRD) (Below.refl _ _).drew) (by omega) ?_; intro ao2 cap2 wa hL hK; rw [Nat.zero_add (m - k)] at hL ⊢; have HLa : Hid (RowB 40 9 eStow W3.heap.size wa ao2 (m - k) cap2 (L.drop k)) := hL; have HBa : Hid (Below W3.heap.size W3 wa) := (by first | exact (Below.alloc1 _ _).trans (hK.below (Below.alloc1 _ _).size (fun b e => by simp only [Option.some.injEq, Addr.mk.injEq, and_true] at e; omega)) | exact (Below.alloc1 _ _).drew.trans (hK.below (Below.alloc1 _ _).drew.size (fun b e => by simp only [Option.some.injEq, Addr.mk.injEq, and_true] at e; omega))); clear hL hK) | (refine step_appAll tyStow _ (by rfl) (.tmp 73) (.tmp 76) (by rfl) W3.heap.size ao2 (m - k) cap2 (L.drop k) (by rfl) (by first | exact unhide HLa | exact (unhide HLa).below (Below.refl _ _).drew) (by first | exact (unhide HBa).size | exact (unhide HBa).drew.size) (by omega) (some ⟨g, 0, none⟩) k c (L.take k) (by rfl) (by first | exact RecsIn.below (unhide HRT) (unhide HBa) | exact RecsIn.below (unhide HRT) (unhide HBa).drew) (by omega) ?_; intro ao3 cap3 wb hL hK; have HLb := hide hL; have HBb : Hid (Below W3.heap.size W3 wb) := (by first | exact (unhide HBa).trans (hK.below (unhide HBa).size (fun b e => (unhide HLa).at' (by omega) e)) | exact (unhide HBa).drew.trans (hK.below (unhide HBa).drew.size (fun b e => (unhide HLa).at' (by omega) e))); clear hL hK))
    all_goals
      have HA := hide (mu_mk (ro := some ⟨g, 0, none⟩) (w := w) (by omega) ((unhide HLb).mono hBW) ((unhide HM).cur.below (unhide HBb)) ((unhide HM).kept.trans (kept_of_below (unhide HBb))))
      go_wp2
      go_ret
      exact unhide HA

end Go.Proofs.Ytnfdokcpjcnknaa

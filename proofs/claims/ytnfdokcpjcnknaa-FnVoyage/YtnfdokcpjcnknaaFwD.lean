/- Stowage: bays that are drawn. Written by wip/mkfwd.py. No statement about the program stands here. -/
import Derived.Test.YtnfdokcpjcnknaaRowB
import Derived.Test.YtnfdokcpjcnknaaRHatch
import Derived.Test.YtnfdokcpjcnknaaStoU
import Derived.Test.YtnfdokcpjcnknaaDrE
namespace Go.Proofs.Ytnfdokcpjcnknaa
open Go.RowKit

theorem tyHatch : RecTy 24 65 4 eHatch := recTy_mk Try.underlying24 Try.infoHatch rfl (by decide) (by decide) (fun x j hj => by
  have : j = 0 ∨ j = 1 ∨ j = 2 ∨ j = 3 := by omega
  rcases this with e | e | e | e <;> subst e <;> rfl)
theorem recH_cons (x : HatchT) (t : List HatchT) : recCells 4 eHatch (x :: t) = .int .i64 x.1 :: .int .i64 x.2.1 :: .int .i64 x.2.2.1 :: .int .i64 x.2.2.2 :: recCells 4 eHatch t := by
  have h := recCells_append 4 (by decide) eHatch [x] t
  rw [recCells_one] at h
  exact h
theorem ints_hatch : ∀ (N : Nat) (xs : List Int), xs.length = N * 4 → ∃ L : List HatchT, L.length = N ∧ recCells 4 eHatch L = ints xs
  | 0, xs, h => by
    have : xs = [] := List.length_eq_zero_iff.1 (by omega)
    subst this
    exact ⟨[], rfl, rfl⟩
  | N + 1, a :: b :: c :: d :: xs, h => by
    obtain ⟨L, h1, h2⟩ := ints_hatch N xs (by simp at h; omega)
    refine ⟨(a, b, c, d) :: L, by rw [List.length_cons, h1], ?_⟩
    rw [recH_cons, h2]
    rfl
  | N + 1, [], h => by simp at h
  | N + 1, [_], h => by simp at h; omega
  | N + 1, [_, _], h => by simp at h; omega
  | N + 1, [_, _, _], h => by simp at h; omega
theorem l1PickIntM_any (cb n : Nat) (v : Value) (g m : Nat) (xs : List Int) (w : World) (h : Cur w cb v n) (hn : n ≤ 1048576) (hx : OwnV w g (ints xs)) (hg : g ≠ cb) (hm : xs.length = m) (hm0 : 1 ≤ m) (hm1 : m ≤ 256) :
    Calls Try.prog 17 #[.pointer (some ⟨cb, 0, none⟩), .slice (some ⟨g, 0, none⟩) m m] w fun e w' => ∃ x, e = .returned (.int .i64 x) ∧ x ∈ xs ∧ Cur w' cb v n ∧ Kept (fun b => b = cb) w w' := by
  have HB := hide (l1BelowV_any cb n v m w h hn (by omega) (by omega))
  have HX := hide hx
  have HM := hide hm
  clear h hx hm
  go_enter Try.func17, Try.ntmps17
  go_wp2_with fail
  refine (unhide HB).mono ?_
  rintro e w1 ⟨x, rfl, hx0, hx1, hc, hk⟩
  have HC := hide hc
  have HK := hide hk
  obtain ⟨j, rfl⟩ : ∃ j : Nat, x = (j : Int) := ⟨x.toNat, by omega⟩
  have hjl : j < xs.length := by rw [unhide HM]; omega
  have cj := ((unhide HX).kept hk hg).cell (ints_get xs (i := j) hjl)
  have hmem : xs.getD j 0 ∈ xs := by rw [List.getD_eq_getElem?_getD, List.getElem?_eq_getElem hjl]; exact List.getElem_mem hjl
  generalize xs.getD j 0 = y at cj hmem
  have HMEM := hide hmem
  clear hc hk hjl hmem
  go_wp2
  go_ret
  exact ⟨_, rfl, unhide HMEM, unhide HC, unhide HK⟩
/-- Bays that are drawn. -/
def BaysAns (cb n : Nat) (v : Value) (w : World) (e : Ending) (w' : World) : Prop := ∃ ao m cap L, e = .returned (.slice ao m cap) ∧ m ≤ 7 ∧ OwnR 4 eHatch w.heap.size w' (.slice ao m cap) L ∧ Cur w' cb v n ∧ Kept (fun b => b = cb) w w'
theorem bays_mk {cb n : Nat} {v : Value} {w w' : World} {e : Ending} {ao : Option Addr} {m cap : Nat} {L : List HatchT} (h1 : e = .returned (.slice ao m cap)) (h2 : m ≤ 7) (h3 : OwnR 4 eHatch w.heap.size w' (.slice ao m cap) L) (h4 : Cur w' cb v n) (h5 : Kept (fun b => b = cb) w w') : BaysAns cb n v w e w' := ⟨ao, m, cap, L, h1, h2, h3, h4, h5⟩
theorem bays_out {cb n : Nat} {v : Value} {w w' : World} {e : Ending} (h : BaysAns cb n v w e w') : ∃ ao m cap L, e = .returned (.slice ao m cap) ∧ m ≤ 7 ∧ OwnR 4 eHatch w.heap.size w' (.slice ao m cap) L ∧ Cur w' cb v n ∧ Kept (fun b => b = cb) w w' := h
theorem four_zero : ∀ k : Nat, k < 4 → (#[Value.int .i64 0, .int .i64 0, .int .i64 0, .int .i64 0] : Array Value)[k]! = .int .i64 0 := fun k hk => by
  have : k = 0 ∨ k = 1 ∨ k = 2 ∨ k = 3 := by omega
  rcases this with e | e | e | e <;> subst e <;> rfl
theorem ownIntsSet {w : World} {g : Nat} {xs : List Int} (h : OwnV w g (ints xs)) (j : Nat) (u : Int) (hj : j < xs.length) : OwnV (w.setCell ⟨g, j, none⟩ (.int .i64 u)) g (ints (xs.set j u)) := by
  have h' := h.set j (.int .i64 u) (by rw [ints_length]; exact hj)
  rw [ints_set] at h'
  exact h'
theorem made_hatch (n : Nat) : (madeCells (vHatch 0 0 0 0).cells n).toList = ints (List.replicate n 0) := by
  have hz : (vHatch 0 0 0 0).cells = #[.int .i64 0, .int .i64 0, .int .i64 0, .int .i64 0] := by simp [vHatch, Value.cells]
  rw [hz]
  apply List.ext_getElem
  · simp [madeCells, ints]
  · intro i h1 h2
    simp only [madeCells, ints, Array.toList_map, Array.toList_range, List.getElem_map, List.getElem_range, List.getElem_replicate]
    exact four_zero _ (Nat.mod_lt _ (by decide))
theorem RowB.at' {α : Type} [Inhabited α] {T : TypeId} {n : Nat} {enc : α → Nat → Value} {B : Nat} {w : World} {ao : Option Addr} {m cap : Nat} {L : List α} (h : RowB T n enc B w ao m cap L) (hn : 0 < n) {k : Nat} (e : ao = some ⟨k, 0, none⟩) : B ≤ k := by
  rcases h.parts hn with ⟨e2, _⟩ | ⟨g, e2, hg, _⟩
  · rw [e] at e2; cases e2
  · rw [e] at e2; simp only [Option.some.injEq, Addr.mk.injEq, and_true] at e2; omega
theorem keptRow {α : Type} [Inhabited α] {P : Nat → Prop} {T : TypeId} {n : Nat} {enc : α → Nat → Value} {w W w' : World} {ao : Option Addr} {m cap : Nat} {L : List α} (hK : Kept P w W) (h : RowB T n enc w.heap.size W ao m cap L) (hn : 0 < n) (hA : Kept (fun k => ao = some ⟨k, 0, none⟩) W w') : Kept P w w' :=
  ⟨hA.os.trans hK.os, hA.tape.trans hK.tape, hA.output.trans hK.output, Nat.le_trans hK.size hA.size, fun k hk hp => (hA.block k (Nat.lt_of_lt_of_le hk hK.size) (fun e => by have := h.at' hn e; omega)).trans (hK.block k hk hp)⟩
theorem keptSet {P : Nat → Prop} {w W : World} {g i : Nat} {u : Value} (hK : Kept P w W) (hg : w.heap.size ≤ g) : Kept P w (W.setCell ⟨g, i, none⟩ u) :=
  have k := Kept.setCell (T := fun k => k = g) (Kept.refl _ W) (p := ⟨g, i, none⟩) rfl u
  ⟨k.os.trans hK.os, k.tape.trans hK.tape, k.output.trans hK.output, Nat.le_trans hK.size k.size, fun q hq hp => (k.block q (Nat.lt_of_lt_of_le hq hK.size) (fun e => by omega)).trans (hK.block q hq hp)⟩
theorem curSet {W : World} {cb q g i : Nat} {v u : Value} (hC : Cur W cb v q) (hg : cb < g) : Cur (W.setCell ⟨g, i, none⟩ u) cb v q :=
  hC.kept (Kept.setCell (T := fun k => k = g) (Kept.refl _ W) (p := ⟨g, i, none⟩) rfl u) (fun b e => by omega)
theorem rowSet {α : Type} [Inhabited α] {T : TypeId} {n : Nat} {enc : α → Nat → Value} {B : Nat} {W : World} {ao : Option Addr} {m cap g i : Nat} {L : List α} {u : Value} (h : RowB T n enc B W ao m cap L) (hg : ao ≠ some ⟨g, 0, none⟩) : RowB T n enc B (W.setCell ⟨g, i, none⟩ u) ao m cap L :=
  h.kept (Kept.setCell (T := fun k => k = g) (Kept.refl _ W) (p := ⟨g, i, none⟩) rfl u) (fun q e _ _ e2 => hg (by rw [e]; simp [e2]))
theorem curRow {α : Type} [Inhabited α] {T : TypeId} {n cb q : Nat} {v : Value} {enc : α → Nat → Value} {B : Nat} {W w' : World} {ao : Option Addr} {m cap : Nat} {L : List α} (hC : Cur W cb v q) (h : RowB T n enc B W ao m cap L) (hn : 0 < n) (hcl : cb < B) (hA : Kept (fun k => ao = some ⟨k, 0, none⟩) W w') : Cur w' cb v q :=
  hC.kept hA (fun b e => by have := h.at' hn e; omega)

set_option maxRecDepth 10000 in
set_option maxHeartbeats 25600000 in
theorem l12DrawBays_any (cb n : Nat) (v : Value) (sm : Bool) (w : World) (h : Cur w cb v n) (hn : n ≤ 1048576) :
    Calls Try.prog 11 #[.pointer (some ⟨cb, 0, none⟩), .bool sm] w fun e w' => BaysAns cb n v w e w' := by
  have hcl := h.lt
  have QB := hide fun W (hW : Cur W cb v n) k h0 h1 => l1BelowV_any cb n v k W hW hn h0 h1
  have hA := Below.alloc1 w (.cells #[] 65)
  have HL := hide (rowB_new 65 4 eHatch w w.heap.size (Nat.le_refl _))
  have HC := hide (h.below hA)
  have HK : Hid (Kept (fun b => b = cb) w (w.alloc (.cells #[] 65))) := kept_of_below hA
  clear h hA
  obtain ⟨g0, hg0⟩ : ∃ g, g = w.heap.size := ⟨_, rfl⟩
  go_enter Try.func11, Try.ntmps11
  go_wp2_with fail
  refine (unhide QB _ (unhide HC) 3 (by omega) (by omega)).mono ?_
  rintro e w1 ⟨x, rfl, x0, x1, hC, hK⟩
  replace HL := hide ((unhide HL).kept hK (fun g _ hg _ e => by omega))
  replace HK := hide ((unhide HK).trans hK)
  replace HC := hide hC
  clear hC hK
  obtain ⟨xn, rfl⟩ : ∃ j : Nat, x = (j : Int) := ⟨x.toNat, by omega⟩
  have qx : IntKind.i64.wrap (1 + (xn : Int)) = 1 + (xn : Int) := by rw [IntKind.wrap_i64]; omega
  go_wp2
  clear hg0
  go_loopg [5, 6] (1 + xn) (fun g ov iv wr => ∃ (k m c : Nat) (ro : Option Addr) (L : List HatchT), k + m = 1 + xn ∧ g = k * 1 ∧ iv = .int .i64 k ∧ ov = .slice ro m c ∧ Hid (RowB 65 4 eHatch w.heap.size wr ro m c L) ∧ Hid (Cur wr cb v n) ∧ Hid (Kept (fun b => b = cb) w wr))
  case atStart => exact ⟨1 + xn, 0, 0, some ⟨w.heap.size, 0, none⟩, [], by omega, by omega, by go_num, rfl, unhide HL, unhide HC, unhide HK⟩
  case round =>
    clear HL HC HK
    obtain ⟨k1, m, c, ro, L, hkm, rfl, rfl, rfl, HL, HC, HK⟩ := hrel
    by_cases hk0 : 0 < k1
    · obtain ⟨k, rfl⟩ : ∃ k, k1 = k + 1 := ⟨k1 - 1, by omega⟩
      have hki : (0 : Int) < (k : Int) + 1 := by omega
      have hki2 : (0 : Int) < ((k + 1 : Nat) : Int) := by omega
      go_wp2_with fail
      refine (unhide QB _ (unhide HC) 3 (by omega) (by omega)).mono ?_
      rintro e W1 ⟨xa, rfl, xa0, xa1, hC, hK⟩
      replace HL := hide ((unhide HL).kept hK (fun g _ hg _ e => by omega))
      replace HK := hide ((unhide HK).trans hK)
      replace HC := hide hC
      clear hC hK
      have qa : IntKind.i64.wrap (1 + xa) = 1 + xa := by rw [IntKind.wrap_i64]; omega
      go_wp2_with fail
      refine (unhide QB _ (unhide HC) 3 (by omega) (by omega)).mono ?_
      rintro e W2 ⟨xb, rfl, xb0, xb1, hC, hK⟩
      replace HL := hide ((unhide HL).kept hK (fun g _ hg _ e => by omega))
      replace HK := hide ((unhide HK).trans hK)
      replace HC := hide hC
      clear hC hK
      have qb : IntKind.i64.wrap (1 + xb) = 1 + xb := by rw [IntKind.wrap_i64]; omega
      go_wp2_with fail
      refine (unhide QB _ (unhide HC) 200 (by omega) (by omega)).mono ?_
      rintro e W3 ⟨xc, rfl, xc0, xc1, hC, hK⟩
      replace HL := hide ((unhide HL).kept hK (fun g _ hg _ e => by omega))
      replace HK := hide ((unhide HK).trans hK)
      replace HC := hide hC
      clear hC hK
      have qc : IntKind.i64.wrap (50 + xc) = 50 + xc := by rw [IntKind.wrap_i64]; omega
      go_wp2_with fail
      refine (unhide QB _ (unhide HC) 4 (by omega) (by omega)).mono ?_
      rintro e W4 ⟨xd, rfl, xd0, xd1, hC, hK⟩
      replace HL := hide ((unhide HL).kept hK (fun g _ hg _ e => by omega))
      replace HK := hide ((unhide HK).trans hK)
      replace HC := hide hC
      clear hC hK
      have hks4 := (unhide HK).size
      have HL0 := HL
      have hA0 := Below.alloc1 W4 (.cells #[.int .i64 (1 + xa), .int .i64 (1 + xb), .int .i64 (50 + xc), .int .i64 xd] 65)
      have HX := hide (ownV_alloc W4 #[.int .i64 (1 + xa), .int .i64 (1 + xb), .int .i64 (50 + xc), .int .i64 xd] 65)
      replace HL := hide ((unhide HL).below hA0)
      replace HK := hide ((unhide HK).trans (kept_of_below hA0))
      replace HC := hide ((unhide HC).below hA0)
      clear hA0
      obtain ⟨gb, egb⟩ : ∃ g, g = W4.heap.size := ⟨_, rfl⟩
      have hgb : w.heap.size ≤ gb := by rw [egb]; exact hks4
      have HNE : Hid (ro ≠ some ⟨gb, 0, none⟩) := fun e => by
        rcases (unhide HL0).parts (by decide) with ⟨e2, _⟩ | ⟨g, e2, _, hlt, _⟩
        · rw [e] at e2; cases e2
        · rw [e] at e2; simp only [Option.some.injEq, Addr.mk.injEq, and_true] at e2; omega
      clear HL0
      rw [← egb] at HX
      cases sm with
      | false =>
        have hG := ownV_alloc (W4.alloc (.cells #[.int .i64 (1 + xa), .int .i64 (1 + xb), .int .i64 (50 + xc), .int .i64 xd] 65)) #[.int .i64 (1 + xa), .int .i64 (1 + xb), .int .i64 (50 + xc), .int .i64 (xd)] 65
        simp only [World.size_alloc] at hG
        have HG := hide hG
        clear hG
        have hA := Below.alloc1 (W4.alloc (.cells #[.int .i64 (1 + xa), .int .i64 (1 + xb), .int .i64 (50 + xc), .int .i64 xd] 65)) (.cells #[.int .i64 (1 + xa), .int .i64 (1 + xb), .int .i64 (50 + xc), .int .i64 (xd)] 65)
        have HL1 := hide ((unhide HL).below hA)
        have HK1 := hide ((unhide HK).trans (kept_of_below hA))
        have HC1 := hide ((unhide HC).below hA)
        have hws := (unhide HK1).size
        have y0 := (unhide HX).cell (i := 0) rfl
        have y1 := (unhide HX).cell (i := 1) rfl
        have y2 := (unhide HX).cell (i := 2) rfl
        have y3 := (unhide HX).cell (i := 3) rfl
        clear hA
        go_wp2_with (at_builtin; go_must (refine wpList_appRow tyHatch _ rfl _ _ rfl w.heap.size ro m c L rfl (unhide HL1) hws (by omega) (W4.heap.size + 1) (1 + xa, 1 + xb, 50 + xc, xd) 1 rfl (unhide HG) ?_); intro g' cap' w4 hL hK hBg hat; have HL2 := hide hL; have HK2 := hide (keptRow (unhide HK1) (unhide HL1) (by decide) hK); have HC2 := hide (curRow (unhide HC1) (unhide HL1) (by decide) hcl hK); clear hL hK hat)
        go_roundg (k * 1)
        case measure => omega
        case rel => exact ⟨k, m + 1, cap', _, _, by omega, rfl, by go_num, rfl, unhide HL2, unhide HC2, unhide HK2⟩
      | true =>
        go_wp2_with fail
        rw [← egb]
        clear egb
        refine (unhide QB _ (unhide HC) 2 (by omega) (by omega)).mono ?_
        rintro e W5 ⟨xe, rfl, xe0, xe1, hC, hK⟩
        replace HL := hide ((unhide HL).kept hK (fun g _ hg _ e => by omega))
        replace HX := hide ((unhide HX).kept hK (by omega))
        replace HK := hide ((unhide HK).trans hK)
        replace HC := hide hC
        clear hC hK
        have qe : IntKind.i64.wrap (1 + xe) = 1 + xe := by rw [IntKind.wrap_i64]; omega
        have y0 := (unhide HX).cell (i := 0) rfl
        have f0 := (unhide HX).frozen 0
        replace HX : Hid (OwnV (W5.setCell ⟨gb, 0, none⟩ (.int .i64 (1 + xe))) gb [.int .i64 (1 + xe), .int .i64 (1 + xb), .int .i64 (50 + xc), .int .i64 (xd)]) := (unhide HX).set 0 (.int .i64 (1 + xe)) (by simp)
        replace HL := hide (rowSet (i := 0) (u := .int .i64 (1 + xe)) (unhide HL) (unhide HNE))
        replace HK := hide (keptSet (i := 0) (u := .int .i64 (1 + xe)) (unhide HK) hgb)
        replace HC := hide (curSet (i := 0) (u := .int .i64 (1 + xe)) (unhide HC) (show cb < gb by omega))
        go_wp2_with fail
        refine (unhide QB _ (unhide HC) 2 (by omega) (by omega)).mono ?_
        rintro e W6 ⟨xf, rfl, xf0, xf1, hC, hK⟩
        replace HL := hide ((unhide HL).kept hK (fun g _ hg _ e => by omega))
        replace HX := hide ((unhide HX).kept hK (by omega))
        replace HK := hide ((unhide HK).trans hK)
        replace HC := hide hC
        clear hC hK y0 f0
        have qf : IntKind.i64.wrap (1 + xf) = 1 + xf := by rw [IntKind.wrap_i64]; omega
        have y1 := (unhide HX).cell (i := 1) rfl
        have f1 := (unhide HX).frozen 1
        replace HX : Hid (OwnV (W6.setCell ⟨gb, 1, none⟩ (.int .i64 (1 + xf))) gb [.int .i64 (1 + xe), .int .i64 (1 + xf), .int .i64 (50 + xc), .int .i64 (xd)]) := (unhide HX).set 1 (.int .i64 (1 + xf)) (by simp)
        replace HL := hide (rowSet (i := 1) (u := .int .i64 (1 + xf)) (unhide HL) (unhide HNE))
        replace HK := hide (keptSet (i := 1) (u := .int .i64 (1 + xf)) (unhide HK) hgb)
        replace HC := hide (curSet (i := 1) (u := .int .i64 (1 + xf)) (unhide HC) (show cb < gb by omega))
        by_cases hm2 : m = 2
        · have hm2i : ((m : Int) == 2) = true := by simp [hm2]
          clear hm2
          have y0 := (unhide HX).cell (i := 0) rfl
          have f0 := (unhide HX).frozen 0
          replace HX : Hid (OwnV ((W6.setCell ⟨gb, 1, none⟩ (.int .i64 (1 + xf))).setCell ⟨gb, 0, none⟩ (.int .i64 (1))) gb [.int .i64 (1), .int .i64 (1 + xf), .int .i64 (50 + xc), .int .i64 (xd)]) := (unhide HX).set 0 (.int .i64 (1)) (by simp)
          replace HL := hide (rowSet (i := 0) (u := .int .i64 (1)) (unhide HL) (unhide HNE))
          replace HK := hide (keptSet (i := 0) (u := .int .i64 (1)) (unhide HK) hgb)
          replace HC := hide (curSet (i := 0) (u := .int .i64 (1)) (unhide HC) (show cb < gb by omega))
          have z1 := (unhide HX).cell (i := 1) rfl
          have g1 := (unhide HX).frozen 1
          replace HX : Hid (OwnV (((W6.setCell ⟨gb, 1, none⟩ (.int .i64 (1 + xf))).setCell ⟨gb, 0, none⟩ (.int .i64 (1))).setCell ⟨gb, 1, none⟩ (.int .i64 (1))) gb [.int .i64 (1), .int .i64 (1), .int .i64 (50 + xc), .int .i64 (xd)]) := (unhide HX).set 1 (.int .i64 (1)) (by simp)
          replace HL := hide (rowSet (i := 1) (u := .int .i64 (1)) (unhide HL) (unhide HNE))
          replace HK := hide (keptSet (i := 1) (u := .int .i64 (1)) (unhide HK) hgb)
          replace HC := hide (curSet (i := 1) (u := .int .i64 (1)) (unhide HC) (show cb < gb by omega))
          have hG := ownV_alloc (((W6.setCell ⟨gb, 1, none⟩ (.int .i64 (1 + xf))).setCell ⟨gb, 0, none⟩ (.int .i64 (1))).setCell ⟨gb, 1, none⟩ (.int .i64 (1))) #[.int .i64 (1), .int .i64 (1), .int .i64 (50 + xc), .int .i64 (xd)] 65
          simp only [World.size_setCell] at hG
          have HG := hide hG
          clear hG
          have hA := Below.alloc1 (((W6.setCell ⟨gb, 1, none⟩ (.int .i64 (1 + xf))).setCell ⟨gb, 0, none⟩ (.int .i64 (1))).setCell ⟨gb, 1, none⟩ (.int .i64 (1))) (.cells #[.int .i64 (1), .int .i64 (1), .int .i64 (50 + xc), .int .i64 (xd)] 65)
          have HL1 := hide ((unhide HL).below hA)
          have HK1 := hide ((unhide HK).trans (kept_of_below hA))
          have HC1 := hide ((unhide HC).below hA)
          have hws := (unhide HK1).size
          have u0 := (unhide HX).cell (i := 0) rfl
          have u1 := (unhide HX).cell (i := 1) rfl
          have y2 := (unhide HX).cell (i := 2) rfl
          have y3 := (unhide HX).cell (i := 3) rfl
          clear hA
          go_wp2_with (at_builtin; go_must (refine wpList_appRow tyHatch _ rfl _ _ rfl w.heap.size ro m c L rfl (unhide HL1) hws (by omega) (W6.heap.size) (1, 1, 50 + xc, xd) 1 rfl (unhide HG) ?_); intro g' cap' w4 hL hK hBg hat; have HL2 := hide hL; have HK2 := hide (keptRow (unhide HK1) (unhide HL1) (by decide) hK); have HC2 := hide (curRow (unhide HC1) (unhide HL1) (by decide) hcl hK); clear hL hK hat)
          go_roundg (k * 1)
          case measure => omega
          case rel => exact ⟨k, m + 1, cap', _, _, by omega, rfl, by go_num, rfl, unhide HL2, unhide HC2, unhide HK2⟩
        · have hm2i : ((m : Int) == 2) = false := by simp; omega
          have hG := ownV_alloc (W6.setCell ⟨gb, 1, none⟩ (.int .i64 (1 + xf))) #[.int .i64 (1 + xe), .int .i64 (1 + xf), .int .i64 (50 + xc), .int .i64 (xd)] 65
          simp only [World.size_setCell] at hG
          have HG := hide hG
          clear hG
          have hA := Below.alloc1 (W6.setCell ⟨gb, 1, none⟩ (.int .i64 (1 + xf))) (.cells #[.int .i64 (1 + xe), .int .i64 (1 + xf), .int .i64 (50 + xc), .int .i64 (xd)] 65)
          have HL1 := hide ((unhide HL).below hA)
          have HK1 := hide ((unhide HK).trans (kept_of_below hA))
          have HC1 := hide ((unhide HC).below hA)
          have hws := (unhide HK1).size
          have y0 := (unhide HX).cell (i := 0) rfl
          have u1 := (unhide HX).cell (i := 1) rfl
          have y2 := (unhide HX).cell (i := 2) rfl
          have y3 := (unhide HX).cell (i := 3) rfl
          clear hA
          go_wp2_with (at_builtin; go_must (refine wpList_appRow tyHatch _ rfl _ _ rfl w.heap.size ro m c L rfl (unhide HL1) hws (by omega) (W6.heap.size) (1 + xe, 1 + xf, 50 + xc, xd) 1 rfl (unhide HG) ?_); intro g' cap' w4 hL hK hBg hat; have HL2 := hide hL; have HK2 := hide (keptRow (unhide HK1) (unhide HL1) (by decide) hK); have HC2 := hide (curRow (unhide HC1) (unhide HL1) (by decide) hcl hK); clear hL hK hat)
          go_roundg (k * 1)
          case measure => omega
          case rel => exact ⟨k, m + 1, cap', _, _, by omega, rfl, by go_num, rfl, unhide HL2, unhide HC2, unhide HK2⟩
    · have hk00 : k1 = 0 := by omega
      subst hk00
      obtain ⟨g, rfl, hgw, hOL, hmc, hcm⟩ : ∃ g, ro = some ⟨g, 0, none⟩ ∧ w.heap.size ≤ g ∧ OwnV wr g (recCells 4 eHatch L) ∧ m ≤ c ∧ c ≤ maxLen := by
        rcases (unhide HL).parts (by decide) with ⟨_, h0, _⟩ | ⟨g, e, h1, _, h2, h3, h4⟩
        · omega
        · exact ⟨g, e, h1, h4, h2, h3⟩
      have hLm := (unhide HL).len (by decide)
      have HO := hide hOL
      clear hOL HL
      obtain ⟨a, t, rfl⟩ : ∃ a t, L = a :: t := by
        cases L with
        | nil => simp at hLm; omega
        | cons a t => exact ⟨a, t, rfl⟩
      obtain ⟨a0, a1, a2, a3⟩ := a
      have hm3 : m ≤ 3 := by omega
      have hm1 : 1 ≤ m := by omega
      rw [List.length_cons] at hLm
      subst hLm
      go_wp2_with fail
      refine (unhide QB _ (unhide HC) 60 (by omega) (by omega)).mono ?_
      rintro e W1 ⟨z, rfl, z0, z1, hC, hK⟩
      replace HO := hide ((unhide HO).kept hK (by omega))
      replace HK := hide ((unhide HK).trans hK)
      replace HC := hide hC
      clear hC hK QB
      have hmi : (0 : Int) < (t.length : Int) + 1 := by omega
      by_cases hz0 : z = 0
      · subst hz0
        have hA3 := Below.alloc1 W1 (.cells #[.int .i64 (0), .int .i64 (6), .int .i64 (7)] 3)
        have HI : Hid (OwnV (W1.alloc (.cells #[.int .i64 (0), .int .i64 (6), .int .i64 (7)] 3)) W1.heap.size (ints [0, 6, 7])) := ownV_alloc W1 #[.int .i64 (0), .int .i64 (6), .int .i64 (7)] 3
        have QP := hide (l1PickInt_any cb n v W1.heap.size 3 [0, 6, 7] _ ((unhide HC).below hA3) hn (unhide HI) (by have := (unhide HC).lt; omega) rfl (by omega) (by omega))
        replace HO := hide ((unhide HO).step hA3)
        replace HK := hide ((unhide HK).trans (kept_of_below hA3))
        clear hA3 HI HC
        go_wp2_with fail
        refine (unhide QP).mono ?_
        rintro e W2 ⟨y, rfl, hC, hK⟩
        replace HO := hide ((unhide HO).kept hK (by omega))
        replace HK := hide ((unhide HK).trans hK)
        have HC := hide hC
        clear hC hK QP
        rw [recH_cons] at HO
        have y0 := (unhide HO).cell (i := 0) rfl
        have f0 := (unhide HO).frozen 0
        have HO2 : Hid (OwnV (W2.setCell ⟨g, 0, none⟩ (.int .i64 y)) g (recCells 4 eHatch ((y, a1, a2, a3) :: t))) := by
          show OwnV _ _ _
          rw [recH_cons]
          exact (unhide HO).set 0 (.int .i64 y) (by simp)
        have HK2 := hide (keptSet (i := 0) (u := .int .i64 y) (unhide HK) hgw)
        have HC2 := hide (curSet (i := 0) (u := .int .i64 y) (unhide HC) (show cb < g by omega))
        go_wp2
        go_ret
        exact bays_mk (L := (y, a1, a2, a3) :: t) rfl (by omega) ⟨_, _, rfl, hmc, hcm, fun _ => ⟨g, rfl, hgw, unhide HO2⟩⟩ (unhide HC2) (unhide HK2)
      have dz0 : (z == 0) = false := by simp [hz0]
      by_cases hz1 : z = 1
      · subst hz1
        have hA3 := Below.alloc1 W1 (.cells #[.int .i64 (-1), .int .i64 (1000000), .int .i64 (1000001)] 3)
        have HI : Hid (OwnV (W1.alloc (.cells #[.int .i64 (-1), .int .i64 (1000000), .int .i64 (1000001)] 3)) W1.heap.size (ints [-1, 1000000, 1000001])) := ownV_alloc W1 #[.int .i64 (-1), .int .i64 (1000000), .int .i64 (1000001)] 3
        have QP := hide (l1PickInt_any cb n v W1.heap.size 3 [-1, 1000000, 1000001] _ ((unhide HC).below hA3) hn (unhide HI) (by have := (unhide HC).lt; omega) rfl (by omega) (by omega))
        replace HO := hide ((unhide HO).step hA3)
        replace HK := hide ((unhide HK).trans (kept_of_below hA3))
        clear hA3 HI HC
        go_wp2_with fail
        refine (unhide QP).mono ?_
        rintro e W2 ⟨y, rfl, hC, hK⟩
        replace HO := hide ((unhide HO).kept hK (by omega))
        replace HK := hide ((unhide HK).trans hK)
        have HC := hide hC
        clear hC hK QP
        rw [recH_cons] at HO
        have y0 := (unhide HO).cell (i := 2) rfl
        have f0 := (unhide HO).frozen 2
        have HO2 : Hid (OwnV (W2.setCell ⟨g, 2, none⟩ (.int .i64 y)) g (recCells 4 eHatch ((a0, a1, y, a3) :: t))) := by
          show OwnV _ _ _
          rw [recH_cons]
          exact (unhide HO).set 2 (.int .i64 y) (by simp)
        have HK2 := hide (keptSet (i := 2) (u := .int .i64 y) (unhide HK) hgw)
        have HC2 := hide (curSet (i := 2) (u := .int .i64 y) (unhide HC) (show cb < g by omega))
        go_wp2
        go_ret
        exact bays_mk (L := (a0, a1, y, a3) :: t) rfl (by omega) ⟨_, _, rfl, hmc, hcm, fun _ => ⟨g, rfl, hgw, unhide HO2⟩⟩ (unhide HC2) (unhide HK2)
      have dz1 : (z == 1) = false := by simp [hz1]
      by_cases hz2 : z = 2
      · subst hz2
        have hA3 := Below.alloc1 W1 (.cells #[.int .i64 (-1), .int .i64 (36), .int .i64 (37)] 3)
        have HI : Hid (OwnV (W1.alloc (.cells #[.int .i64 (-1), .int .i64 (36), .int .i64 (37)] 3)) W1.heap.size (ints [-1, 36, 37])) := ownV_alloc W1 #[.int .i64 (-1), .int .i64 (36), .int .i64 (37)] 3
        have QP := hide (l1PickInt_any cb n v W1.heap.size 3 [-1, 36, 37] _ ((unhide HC).below hA3) hn (unhide HI) (by have := (unhide HC).lt; omega) rfl (by omega) (by omega))
        replace HO := hide ((unhide HO).step hA3)
        replace HK := hide ((unhide HK).trans (kept_of_below hA3))
        clear hA3 HI HC
        go_wp2_with fail
        refine (unhide QP).mono ?_
        rintro e W2 ⟨y, rfl, hC, hK⟩
        replace HO := hide ((unhide HO).kept hK (by omega))
        replace HK := hide ((unhide HK).trans hK)
        have HC := hide hC
        clear hC hK QP
        rw [recH_cons] at HO
        have y0 := (unhide HO).cell (i := 3) rfl
        have f0 := (unhide HO).frozen 3
        have HO2 : Hid (OwnV (W2.setCell ⟨g, 3, none⟩ (.int .i64 y)) g (recCells 4 eHatch ((a0, a1, a2, y) :: t))) := by
          show OwnV _ _ _
          rw [recH_cons]
          exact (unhide HO).set 3 (.int .i64 y) (by simp)
        have HK2 := hide (keptSet (i := 3) (u := .int .i64 y) (unhide HK) hgw)
        have HC2 := hide (curSet (i := 3) (u := .int .i64 y) (unhide HC) (show cb < g by omega))
        go_wp2
        go_ret
        exact bays_mk (L := (a0, a1, a2, y) :: t) rfl (by omega) ⟨_, _, rfl, hmc, hcm, fun _ => ⟨g, rfl, hgw, unhide HO2⟩⟩ (unhide HC2) (unhide HK2)
      have dz2 : (z == 2) = false := by simp [hz2]
      by_cases hz3 : z = 3
      · subst hz3
        have hA3 := Below.alloc1 W1 (.cells #[.int .i64 0, .int .i64 6, .int .i64 7] 3)
        have HI : Hid (OwnV (W1.alloc (.cells #[.int .i64 0, .int .i64 6, .int .i64 7] 3)) W1.heap.size (ints [0, 6, 7])) := ownV_alloc W1 #[.int .i64 0, .int .i64 6, .int .i64 7] 3
        have QP := hide (l1PickIntM_any cb n v W1.heap.size 3 [0, 6, 7] _ ((unhide HC).below hA3) hn (unhide HI) (by have := (unhide HC).lt; omega) rfl (by omega) (by omega))
        replace HK := hide ((unhide HK).trans (kept_of_below hA3))
        clear hA3 HI HC HO
        go_wp2_with fail
        refine (unhide QP).mono ?_
        rintro e W2 ⟨y, rfl, hy, hC, hK⟩
        replace HK := hide ((unhide HK).trans hK)
        have HC := hide hC
        obtain ⟨N, rfl, hN⟩ : ∃ N : Nat, y = (N : Int) ∧ (N = 0 ∨ N = 6 ∨ N = 7) := by
          simp only [List.mem_cons, List.not_mem_nil, or_false] at hy
          rcases hy with e | e | e
          · exact ⟨0, e, Or.inl rfl⟩
          · exact ⟨6, e, Or.inr (Or.inl rfl)⟩
          · exact ⟨7, e, Or.inr (Or.inr rfl)⟩
        have hmk := run_make_recs (P := Try.prog) 24 65 _ 4 32 Try.underlying24 Try.infoHatch .i64 .i64 N (by omega) (by omega)
        obtain ⟨Z, eZ⟩ : ∃ Z, Z = (vHatch 0 0 0 0).cells := ⟨_, rfl⟩
        rw [← eZ] at hmk
        have hA4 := Below.alloc1 W2 (.cells (madeCells Z (N * 4)) 65)
        have HO : Hid (OwnV (W2.alloc (.cells (madeCells Z (N * 4)) 65)) W2.heap.size (ints (List.replicate (N * 4) 0))) := by
          have h := ownV_alloc W2 (madeCells Z (N * 4)) 65
          have e : (madeCells Z (N * 4)).toList = ints (List.replicate (N * 4) 0) := by
            rw [eZ]
            exact made_hatch (N * 4)
          show OwnV _ _ _
          rw [← e]
          exact h
        have hgw2 : w.heap.size ≤ W2.heap.size := (unhide HK).size
        replace HK := hide ((unhide HK).trans (kept_of_below hA4))
        replace HC := hide ((unhide HC).below hA4)
        have hN7 : N ≤ 7 := by omega
        clear hA4 hC hK QP hy hN eZ
        go_wp2
        clear hmk
        obtain ⟨g2, eg2⟩ : ∃ g, g = W2.heap.size := ⟨_, rfl⟩
        rw [← eg2] at HO hgw2 ⊢
        clear eg2
        generalize W2.alloc (.cells (madeCells Z (N * 4)) 65) = W3 at *
        go_loopg [8] N (fun g iv wr => ∃ (i : Nat) (xs : List Int), i ≤ N ∧ g = N - i ∧ iv = .int .i64 i ∧ xs.length = N * 4 ∧ Hid (OwnV wr g2 (ints xs)) ∧ Hid (Cur wr cb v n) ∧ Hid (Kept (fun b => b = cb) w wr))
        case atStart => exact ⟨0, List.replicate (N * 4) 0, Nat.zero_le _, rfl, rfl, by simp, unhide HO, unhide HC, unhide HK⟩
        case round =>
          clear HO HC HK
          obtain ⟨i, xs, hi, rfl, rfl, hxs, HO, HC, HK⟩ := hrel
          by_cases hin : i < N
          · have hii : (i : Int) < N := by omega
            have y0 := (unhide HO).cell (ints_get xs (i := i * 4) (by omega))
            have y1 := (unhide HO).cell (ints_get xs (i := i * 4 + 1) (by omega))
            have y2 := (unhide HO).cell (ints_get xs (i := i * 4 + 2) (by omega))
            have y3 := (unhide HO).cell (ints_get xs (i := i * 4 + 3) (by omega))
            have f0 := (unhide HO).frozen (i * 4)
            have f1 := (unhide HO).frozen (i * 4 + 1)
            have f2 := (unhide HO).frozen (i * 4 + 2)
            have f3 := (unhide HO).frozen (i * 4 + 3)
            have HO2 := hide (ownIntsSet (ownIntsSet (ownIntsSet (ownIntsSet (unhide HO) (i * 4) 1 (by omega)) (i * 4 + 1) 1 (by simp; omega)) (i * 4 + 2) 500 (by simp; omega)) (i * 4 + 3) 0 (by simp; omega))
            have HC2 := hide (curSet (i := i * 4 + 3) (u := .int .i64 0) (curSet (i := i * 4 + 2) (u := .int .i64 500) (curSet (i := i * 4 + 1) (u := .int .i64 1) (curSet (i := i * 4) (u := .int .i64 1) (unhide HC) (show cb < g2 by omega)) (show cb < g2 by omega)) (show cb < g2 by omega)) (show cb < g2 by omega))
            have HK2 := hide (keptSet (i := i * 4 + 3) (u := .int .i64 0) (keptSet (i := i * 4 + 2) (u := .int .i64 500) (keptSet (i := i * 4 + 1) (u := .int .i64 1) (keptSet (i := i * 4) (u := .int .i64 1) (unhide HK) hgw2) hgw2) hgw2) hgw2)
            go_wp2
            go_roundg (N - (i + 1))
            case measure => omega
            case rel => exact ⟨i + 1, _, by omega, rfl, by go_num, by simp only [List.length_set]; exact hxs, unhide HO2, unhide HC2, unhide HK2⟩
          · have hii : ¬ (i : Int) < N := by omega
            obtain ⟨LL, hLL, hrec⟩ := ints_hatch N xs hxs
            have HO2 : Hid (OwnV wr g2 (recCells 4 eHatch LL)) := by show OwnV _ _ _; rw [hrec]; exact unhide HO
            clear hrec HO
            subst hLL
            go_wp2
            go_ret
            exact bays_mk (L := LL) rfl (by omega) ⟨_, _, rfl, Nat.le_refl _, by unfold maxLen; omega, fun _ => ⟨g2, rfl, hgw2, unhide HO2⟩⟩ (unhide HC) (unhide HK)
      have dz3 : (z == 3) = false := by simp [hz3]
      clear hz0 hz1 hz2 hz3
      go_wp2
      go_ret
      exact bays_mk (L := (a0, a1, a2, a3) :: t) rfl (by omega) ⟨_, _, rfl, hmc, hcm, fun _ => ⟨g, rfl, hgw, unhide HO⟩⟩ (unhide HC) (unhide HK)

end Go.Proofs.Ytnfdokcpjcnknaa

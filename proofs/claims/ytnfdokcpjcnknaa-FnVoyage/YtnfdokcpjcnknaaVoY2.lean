/- Texts laid together by wip/lay12v.py: StoI StoK VoM StoJ StoL LawFnVoyage. -/
import Derived.Test.YtnfdokcpjcnknaaStoE
import Derived.Test.YtnfdokcpjcnknaaOwnInts
import Derived.Test.YtnfdokcpjcnknaaStoH
import Derived.Test.YtnfdokcpjcnknaaStoU
import Derived.Test.YtnfdokcpjcnknaaStoD
import Derived.Test.YtnfdokcpjcnknaaAtBig
/- Stowage: shifts in numbers; the program's Shifts. Written by wip/mksto2.py. -/
namespace Go.Proofs.Ytnfdokcpjcnknaa
open Go.RowKit

/-- Stow k goes at port p and stands below the spot s. -/
def onB (L : List StowT) (p : Int) (s : I3) (k : Nat) : Bool := decide (toS (stO L k) = p ∧ s.1 = (ssp (stO L k)).1 ∧ s.2.1 = (ssp (stO L k)).2.1 ∧ (ssp (stO L k)).2.2 < s.2.2)
def iwB (L : List StowT) (p : Int) (s : I3) (n : Nat) : Bool := decide (∃ k, k < n ∧ onB L p s k = true)
/-- Stow i must be lifted at port p. -/
def shA (L : List StowT) (p : Int) (i : Nat) : Bool := decide (p < toS (stO L i)) && iwB L p (ssp (stO L i)) L.length
def shL (L : List StowT) (p : Int) : Nat → List Int
  | 0 => []
  | i + 1 => shL L p i ++ (if shA L p i = true then [(i : Int)] else [])
def twB (L : List StowT) : Bool := decide (∃ i, i < L.length ∧ hasB (L.take i) (ssp (stO L i)) = true)
def shOk (L : List StowT) (p : Int) : Bool := decide (L.length ≤ 40) && !twB L && inB p 0 19
def shV (L : List StowT) (p : Int) : List Int := if shOk L p = true then shL L p L.length else []
theorem shL_len (L : List StowT) (p : Int) : ∀ i, (shL L p i).length ≤ i
  | 0 => Nat.le_refl _
  | i + 1 => by
    have := shL_len L p i
    rw [shL, List.length_append]
    split <;> simp <;> omega
theorem shV_len (L : List StowT) (p : Int) : (shV L p).length ≤ 40 := by
  unfold shV
  split
  next h =>
    simp only [shOk, Bool.and_eq_true, decide_eq_true_eq] at h
    have := shL_len L p L.length
    omega
  next => simp
theorem iwB_hit {L : List StowT} {p : Int} {s : I3} {n k : Nat} (hk : k < n) (h : onB L p s k = true) : iwB L p s n = true := by
  simp only [iwB, decide_eq_true_eq]
  exact ⟨k, hk, h⟩
theorem iwB_none {L : List StowT} {p : Int} {s : I3} {n : Nat} (h : ∀ k, k < n → onB L p s k = false) : iwB L p s n = false := by
  simp only [iwB, decide_eq_false_iff_not]
  rintro ⟨k, hk, e⟩
  rw [h k hk] at e
  cases e
theorem iwB_step {L : List StowT} {p : Int} {s : I3} {n : Nat} : iwB L p s (n + 1) = (iwB L p s n || onB L p s n) := by
  rw [Bool.eq_iff_iff]
  simp only [iwB, decide_eq_true_eq, Bool.or_eq_true]
  constructor
  · rintro ⟨k, hk, h⟩
    by_cases e : k = n
    · rw [e] at h; exact Or.inr h
    · exact Or.inl ⟨k, by omega, h⟩
  · rintro (⟨k, hk, h⟩ | h)
    · exact ⟨k, by omega, h⟩
    · exact ⟨n, by omega, h⟩
theorem twB_hit {L : List StowT} {i : Nat} (hi : i < L.length) (h : hasB (L.take i) (ssp (stO L i)) = true) : twB L = true := by
  simp only [twB, decide_eq_true_eq]
  exact ⟨i, hi, h⟩
theorem twB_none {L : List StowT} (h : ∀ i, i < L.length → hasB (L.take i) (ssp (stO L i)) = false) : twB L = false := by
  simp only [twB, decide_eq_false_iff_not]
  rintro ⟨k, hk, e⟩
  rw [h k hk] at e
  cases e
theorem atV_self {L : List StowT} {i : Nat} (hi : i < L.length) : (atV L (ssp (stO L i)) = (i : Int) ∧ hasB (L.take i) (ssp (stO L i)) = false) ∨ (atV L (ssp (stO L i)) ≠ (i : Int) ∧ hasB (L.take i) (ssp (stO L i)) = true) := by
  rw [hasB_take (Nat.le_of_lt hi)]
  by_cases h : ∃ k, k < i ∧ ssp (stO L k) = ssp (stO L i)
  · refine Or.inr ⟨?_, by simp [h]⟩
    obtain ⟨k, hk, e⟩ := h
    obtain ⟨j, hj, ej, ev, hf⟩ := atV_has (L := L) (s := ssp (stO L i)) (hasB_hit (k := k) (by omega) e)
    rw [ev]
    intro e2
    have e3 : j = i := by omega
    exact hf k (by omega) e
  · refine Or.inl ⟨atV_hit hi rfl (fun r hr e => h ⟨r, hr, e⟩), by simp [h]⟩

/-- Numbers of the call's own, as records of one cell. -/
def e1 (x : Int) (_ : Nat) : Value := .int .i64 x
theorem recCells_ints (L : List Int) : recCells 1 e1 L = ints L := by
  apply List.ext_getElem?
  intro q
  by_cases h : q < L.length
  · rw [ints_get L h]
    simp only [recCells, Nat.mul_one, List.getElem?_map, List.getElem?_range h, Option.map_some, Nat.div_one]
    rfl
  · rw [List.getElem?_eq_none (by rw [recCells_length]; omega), List.getElem?_eq_none (by rw [ints_length]; omega)]
theorem Try.infoInt1 : (Try.prog.info? 3).map (fun i => (i.zero, i.size, i.bytes)) = some (some (.int .i64 0), 1, 8) := by kernel_rfl
theorem tyInt : RecTy 32 3 1 e1 := recTy_mk Try.underlying32 Try.infoInt1 rfl (by decide) (by decide) (fun x j hj => rfl)
theorem RowB.sl {B : Nat} {w : World} {ao : Option Addr} {m cap : Nat} {L : List Int} (h : RowB 3 1 e1 B w ao m cap L) : OwnSl B w (.slice ao m cap) L := by
  have hl := h.len (by decide)
  rcases h.parts (by decide) with ⟨rfl, rfl, rfl, rfl⟩ | ⟨g, rfl, hg, _, hc, hm, ho⟩
  · exact ⟨none, 0, rfl, Nat.le_refl _, Nat.zero_le _, fun h => absurd rfl h⟩
  · subst hl
    rw [recCells_ints] at ho
    exact ⟨_, cap, rfl, hc, hm, fun _ => ⟨g, rfl, hg, ho⟩⟩
theorem onRow_below {B : Nat} {w W w' : World} {ao : Option Addr} {m cap n : Nat} {T : TypeId} {α : Type} [Inhabited α] {enc : α → Nat → Value} {L : List α} (hW : Below B w W) (h : RowB T n enc B W ao m cap L) (hn : 0 < n) (hB : B ≤ W.heap.size) (hK : Kept (fun k => ao = some ⟨k, 0, none⟩) W w') : Below B w w' := by
  refine Below.trans hW (hK.below hB (fun q hq => ?_))
  rcases h.parts hn with ⟨e, _⟩ | ⟨g, e, hg, _⟩
  · rw [hq] at e; cases e
  · rw [hq] at e; simp only [Option.some.injEq, Addr.mk.injEq, and_true] at e; omega

set_option maxHeartbeats 1600000 in
theorem isOnTopOf_any (x y z x' y' z' : Int) (w : World) :
    Calls Try.prog 52 #[v3 (x, y, z), v3 (x', y', z')] w fun e w' => e = .returned (.bool (decide (x = x' ∧ y = y' ∧ z' < z))) ∧ Below w.heap.size w w' := by
  unfold v3
  have HW : Hid (Below w.heap.size w ((w.alloc (.cells #[.int .i64 x, .int .i64 y, .int .i64 z] 38)).alloc (.cells #[.int .i64 x', .int .i64 y', .int .i64 z'] 38))) := Below.step (Below.alloc1 _ _) (Below.alloc1 _ _)
  by_cases h1 : x = x'
  · have d1 : (x == x') = true := by simp [h1]
    have f1 : decide (x = x') = true := by simp [h1]
    by_cases h2 : y = y'
    · have d2 : (y == y') = true := by simp [h2]
      have f2 : decide (y = y') = true := by simp [h2]
      have E : Hid (decide (x = x' ∧ y = y' ∧ z' < z) = decide (z' < z)) := by show _ = _; simp [h1, h2]
      clear h1 h2
      go_enter Try.func52, Try.ntmps52
      go_wp2
      go_ret
      exact ⟨by rw [unhide E]; rfl, unhide HW⟩
    · have d2 : (y == y') = false := by simp [h2]
      have f2 : decide (y = y') = false := by simp [h2]
      have E : Hid (decide (x = x' ∧ y = y' ∧ z' < z) = false) := by show _ = _; simp [h2]
      clear h1 h2
      go_enter Try.func52, Try.ntmps52
      go_wp2
      go_ret
      exact ⟨by rw [unhide E]; rfl, unhide HW⟩
  · have d1 : (x == x') = false := by simp [h1]
    have f1 : decide (x = x') = false := by simp [h1]
    have E : Hid (decide (x = x' ∧ y = y' ∧ z' < z) = false) := by show _ = _; simp [h1]
    clear h1
    go_enter Try.func52, Try.ntmps52
    go_wp2
    go_ret
    exact ⟨by rw [unhide E]; rfl, unhide HW⟩

set_option maxRecDepth 10000 in
set_option maxHeartbeats 3200000 in
theorem isInTheWay_any (v : Value) (L : List StowT) (x y z p : Int) (w : World) (h : RStow w v L) :
    Calls Try.prog 30 #[v3 (x, y, z), v, .int .i64 p] w fun e w' => e = .returned (.bool (iwB L p (x, y, z) L.length)) ∧ Below w.heap.size w w' := by
  obtain ⟨ao, cap, rfl, hl, hm, hc⟩ := h
  unfold maxLen at hm
  have HC := hide hc
  clear hc
  unfold v3
  have HS0 := hide (ownV_alloc w #[.int .i64 x, .int .i64 y, .int .i64 z] 38)
  have HW0 := hide (Below.alloc1 w (.cells #[.int .i64 x, .int .i64 y, .int .i64 z] 38))
  have E1 : Hid ((∀ r, r < L.length → onB L p (x, y, z) r = false) → iwB L p (x, y, z) L.length = false) := iwB_none
  have E2 : Hid (∀ k, k < L.length → onB L p (x, y, z) k = true → iwB L p (x, y, z) L.length = true) := fun k => iwB_hit
  go_enter Try.func30, Try.ntmps30
  go_wp2
  go_loopg [11] L.length (fun g i wr => ∃ k : Nat, k ≤ L.length ∧ g = L.length - k ∧ i = .int .i64 k ∧ Hid (∀ r, r < k → onB L p (x, y, z) r = false) ∧ Hid (Below w.heap.size w wr) ∧ Hid (OwnV wr w.heap.size [.int .i64 x, .int .i64 y, .int .i64 z]))
  case atStart => exact ⟨0, Nat.zero_le _, rfl, rfl, fun r hr => by omega, unhide HW0, unhide HS0⟩
  case round =>
    obtain ⟨k, hk, rfl, rfl, HA, HW, HS⟩ := hrel
    clear HW0 HS0
    by_cases hkn : k < L.length
    · have HAk := hide (unhide E2 k hkn)
      obtain ⟨b, o, n0, wt, cl, co, fr, to, sx, sy, sz, rfl, hc0, hc1, hc2, hc3, hc4, hc5, hc6, hc7, hc8, EX⟩ := recStowAt (unhide HC) hkn
      have g0 := ((unhide HW).cell (lt_of_cell hc0)).trans hc0
      have g1 := ((unhide HW).cell (lt_of_cell hc1)).trans hc1
      have g2 := ((unhide HW).cell (lt_of_cell hc2)).trans hc2
      have g3 := ((unhide HW).cell (lt_of_cell hc3)).trans hc3
      have g4 := ((unhide HW).cell (lt_of_cell hc4)).trans hc4
      have g5 := ((unhide HW).cell (lt_of_cell hc5)).trans hc5
      have g6 := ((unhide HW).cell (lt_of_cell hc6)).trans hc6
      have g7 := ((unhide HW).cell (lt_of_cell hc7)).trans hc7
      have g8 := ((unhide HW).cell (lt_of_cell hc8)).trans hc8
      have ESP : Hid (ssp (stO L k) = (sx, sy, sz)) := by show _ = _; unfold stO; rw [unhide EX]; rfl
      have EBX : Hid (sbx (stO L k) = (n0, wt, cl, co, fr, to)) := by show _ = _; unfold stO; rw [unhide EX]; rfl
      clear hc0 hc1 hc2 hc3 hc4 hc5 hc6 hc7 hc8
      have EO : Hid (onB L p (x, y, z) k = decide (to = p ∧ x = sx ∧ y = sy ∧ sz < z)) := by show _ = _; unfold onB toS; rw [unhide ESP]; unfold stO; rw [unhide EX]
      have HA1 : Hid (onB L p (x, y, z) k = false → ∀ r, r < k + 1 → onB L p (x, y, z) r = false) := fun h r hr => by
        by_cases e : r = k
        · rw [e]; exact h
        · exact unhide HA r (by omega)
      rw [unhide EO] at HAk HA1
      have hA := Below.alloc1 wr (.cells #[.string n0, .int .i64 wt, .int .i64 cl, .bool co, .int .i64 fr, .int .i64 to, .int .i64 sx, .int .i64 sy, .int .i64 sz] 40)
      have HW1 := hide (Below.step (unhide HW) hA)
      have HS1 := hide ((unhide HS).step hA)
      have k0 := (unhide HS1).cell (i := 0) rfl
      have k1 := (unhide HS1).cell (i := 1) rfl
      have k2 := (unhide HS1).cell (i := 2) rfl
      have hki : (k : Int) < L.length := by omega
      clear EX EBX ESP hA HW HS EO HA
      by_cases ht : to = p
      · have d1 : (to == p) = true := by simp [ht]
        have f1 : decide (to = p) = true := by simp [ht]
        have QT := hide fun V => isOnTopOf_any x y z sx sy sz V
        unfold v3 at QT
        have ET : Hid (decide (to = p ∧ x = sx ∧ y = sy ∧ sz < z) = decide (x = sx ∧ y = sy ∧ sz < z)) := by show _ = _; simp [ht]
        rw [unhide ET] at HAk HA1
        clear ht ET
        generalize decide (x = sx ∧ y = sy ∧ sz < z) = r at *
        go_wp2_with fail
        refine (unhide QT _).mono ?_
        rintro e w2 ⟨rfl, hb⟩
        replace HW1 := hide (Below.step (unhide HW1) hb)
        replace HS1 := hide ((unhide HS1).step hb)
        clear hb QT k0 k1 k2
        cases r with
        | true =>
          have E := hide (unhide HAk rfl)
          clear HAk HA1 E1 E2
          go_wp2
          go_ret
          exact ⟨by rw [unhide E]; rfl, unhide HW1⟩
        | false =>
          replace HA1 := hide (unhide HA1 rfl)
          clear HAk
          go_wp2
          go_roundg (L.length - (k + 1))
          case measure => omega
          case rel => exact ⟨k + 1, by omega, rfl, by go_num, unhide HA1, unhide HW1, unhide HS1⟩
      · have d1 : (to == p) = false := by simp [ht]
        have f1 : decide (to = p) = false := by simp [ht]
        replace HA1 := hide (unhide HA1 (by simp [ht]))
        clear HAk ht
        go_wp2
        go_roundg (L.length - (k + 1))
        case measure => omega
        case rel => exact ⟨k + 1, by omega, rfl, by go_num, unhide HA1, unhide HW1, unhide HS1⟩
    · have hki : ¬ (k : Int) < L.length := by omega
      have hkk : k = L.length := by omega
      have E := hide (unhide E1 (by rw [← hkk]; exact unhide HA))
      clear hkk E1
      go_wp2
      go_ret
      exact ⟨by rw [unhide E]; rfl, unhide HW⟩

set_option maxRecDepth 10000 in
set_option maxHeartbeats 3200000 in
theorem hasSpotTwice_any (v : Value) (L : List StowT) (w : World) (h : RStow w v L) :
    Calls Try.prog 29 #[v] w fun e w' => e = .returned (.bool (twB L)) ∧ Below w.heap.size w w' := by
  have HR := hide h
  obtain ⟨ao, cap, rfl, hl, hm, hc⟩ := h
  unfold maxLen at hm
  have HC := hide hc
  clear hc
  have E1 : Hid ((∀ r, r < L.length → hasB (L.take r) (ssp (stO L r)) = false) → twB L = false) := twB_none
  have E2 : Hid (∀ k, k < L.length → hasB (L.take k) (ssp (stO L k)) = true → twB L = true) := fun k => twB_hit
  go_enter Try.func29, Try.ntmps29
  go_wp2
  go_loopg [7] L.length (fun g i wr => ∃ k : Nat, k ≤ L.length ∧ g = L.length - k ∧ i = .int .i64 k ∧ Hid (∀ r, r < k → hasB (L.take r) (ssp (stO L r)) = false) ∧ Hid (Below w.heap.size w wr))
  case atStart => exact ⟨0, Nat.zero_le _, rfl, rfl, fun r hr => by omega, Below.refl _ _⟩
  case round =>
    obtain ⟨k, hk, rfl, rfl, HA, HW⟩ := hrel
    by_cases hkn : k < L.length
    · have HAk := hide (unhide E2 k hkn)
      obtain ⟨b, o, n0, wt, cl, co, fr, to, sx, sy, sz, rfl, hc0, hc1, hc2, hc3, hc4, hc5, hc6, hc7, hc8, EX⟩ := recStowAt (unhide HC) hkn
      have g0 := ((unhide HW).cell (lt_of_cell hc0)).trans hc0
      have g1 := ((unhide HW).cell (lt_of_cell hc1)).trans hc1
      have g2 := ((unhide HW).cell (lt_of_cell hc2)).trans hc2
      have g3 := ((unhide HW).cell (lt_of_cell hc3)).trans hc3
      have g4 := ((unhide HW).cell (lt_of_cell hc4)).trans hc4
      have g5 := ((unhide HW).cell (lt_of_cell hc5)).trans hc5
      have g6 := ((unhide HW).cell (lt_of_cell hc6)).trans hc6
      have g7 := ((unhide HW).cell (lt_of_cell hc7)).trans hc7
      have g8 := ((unhide HW).cell (lt_of_cell hc8)).trans hc8
      have ESP : Hid (ssp (stO L k) = (sx, sy, sz)) := by show _ = _; unfold stO; rw [unhide EX]; rfl
      have EBX : Hid (sbx (stO L k) = (n0, wt, cl, co, fr, to)) := by show _ = _; unfold stO; rw [unhide EX]; rfl
      clear hc0 hc1 hc2 hc3 hc4 hc5 hc6 hc7 hc8
      have HA1 : Hid (hasB (L.take k) (ssp (stO L k)) = false → ∀ r, r < k + 1 → hasB (L.take r) (ssp (stO L r)) = false) := fun h r hr => by
        by_cases e : r = k
        · rw [e]; exact h
        · exact unhide HA r (by omega)
      rw [unhide ESP] at HAk HA1
      obtain ⟨V1, eV⟩ : ∃ V, V = wr.alloc (.cells #[.string n0, .int .i64 wt, .int .i64 cl, .bool co, .int .i64 fr, .int .i64 to, .int .i64 sx, .int .i64 sy, .int .i64 sz] 40) := ⟨_, rfl⟩
      have hA : Below wr.heap.size wr V1 := by rw [eV]; exact Below.alloc1 _ _
      have HX : Hid (OwnV V1 wr.heap.size [.string n0, .int .i64 wt, .int .i64 cl, .bool co, .int .i64 fr, .int .i64 to, .int .i64 sx, .int .i64 sy, .int .i64 sz]) := by show OwnV _ _ _; rw [eV]; exact ownV_alloc wr #[.string n0, .int .i64 wt, .int .i64 cl, .bool co, .int .i64 fr, .int .i64 to, .int .i64 sx, .int .i64 sy, .int .i64 sz] 40
      have HW1 := hide (Below.step (unhide HW) hA)
      have c6 := (unhide HX).cell (i := 6) rfl
      have c7 := (unhide HX).cell (i := 7) rfl
      have c8 := (unhide HX).cell (i := 8) rfl
      have r6 := fun X : Gr V1 => gr_cell c6 X
      have r7 := fun X : Gr V1 => gr_cell c7 X
      have r8 := fun X : Gr V1 => gr_cell c8 X
      have HRT := hide (recs_take (unhide HR) (Nat.le_of_lt hkn))
      have ST := hide fun X : Gr V1 => isTaken_any _ (L.take k) sx sy sz X.val (((unhide HRT).below (unhide HW1)).below X.ok)
      unfold v3 at ST
      have hki : (k : Int) < L.length := by omega
      have hkc : k ≤ cap := by omega
      have hkci : (k : Int) ≤ cap := by omega
      have gsome := gr_some V1
      clear EX EBX ESP hA HW HA HRT
      generalize hasB (L.take k) (sx, sy, sz) = r at *
      go_wp2
      rw [← eV]
      clear eV
      refine wp_region_grown (by kernel_rfl) (by kernel_rfl) ?_
      repeat (go_big_quiet_step (fail))
      go_big_quiet_want
      go_big_quiet_op
      go_big_quiet_call (exact calls_grown (unhide ST _))
      repeat (go_big_quiet_step (fail))
      refine wpQuiet_nil ?_
      intro w1 hw1
      obtain ⟨zq, hz⟩ := hw1
      have hb : Below V1.heap.size V1 w1 := hz ▸ zq.ok
      clear hz gsome

      replace HW1 := hide (Below.step (unhide HW1) hb)
      clear hb ST HX r6 r7 r8 c6 c7 c8
      cases r with
      | true =>
        have E := hide (unhide HAk rfl)
        clear HAk HA1 E1 E2
        go_wp2
        go_ret
        exact ⟨by rw [unhide E]; rfl, unhide HW1⟩
      | false =>
        replace HA1 := hide (unhide HA1 rfl)
        clear HAk
        go_wp2
        go_roundg (L.length - (k + 1))
        case measure => omega
        case rel => exact ⟨k + 1, by omega, rfl, by go_num, unhide HA1, unhide HW1⟩
    · have hki : ¬ (k : Int) < L.length := by omega
      have hkk : k = L.length := by omega
      have E := hide (unhide E1 (by rw [← hkk]; exact unhide HA))
      clear hkk E1
      go_wp2
      go_ret
      exact ⟨by rw [unhide E]; rfl, unhide HW⟩

theorem isBoxPort_any (p : Int) (w : World) : Calls Try.prog 19 #[.int .i64 p] w fun e w' => e = .returned (.bool (inB p 0 19)) ∧ w' = w := by
  have HW := hide fun V => within_any p 0 19 V
  generalize inB p 0 19 = r at *
  go_enter Try.func19, Try.ntmps19
  go_wp2_with fail
  refine (unhide HW _).mono ?_
  rintro e w1 ⟨rfl, rfl⟩
  go_wp2
  go_ret
  exact ⟨rfl, rfl⟩

/-- What is told where shifts are not told. -/
theorem shV_not {L : List StowT} {p : Int} (h : shOk L p = false) : shV L p = [] := by rw [shV, if_neg (by rw [h]; decide)]
theorem shV_ok {L : List StowT} {p : Int} (h : shOk L p = true) : shV L p = shL L p L.length := by rw [shV, if_pos h]

set_option maxRecDepth 10000 in
set_option maxHeartbeats 6400000 in
theorem implShifts_any (v : Value) (L : List StowT) (p : Int) (w : World) (h : RStow w v L) :
    Calls Try.prog 9 #[v, .int .i64 p] w fun e w' => ∃ a n cp, e = .returned (.tuple #[.slice a n cp, .bool (shOk L p)]) ∧ OwnSl w.heap.size w' (.slice a n cp) (shV L p) ∧ Below w.heap.size w w' := by
  have HR := hide h
  obtain ⟨ao, cap, rfl, hl, hm, hc⟩ := h
  unfold maxLen at hm
  have HC := hide hc
  clear hc
  have ENo : Hid (shOk L p = false → shV L p = []) := shV_not
  have EOk : Hid (shOk L p = true → shV L p = shL L p L.length) := shV_ok
  have ES : Hid (shOk L p = (decide (L.length ≤ 40) && !twB L && inB p 0 19)) := rfl
  have HNl : Hid (∀ W, OwnSl w.heap.size W (.slice none 0 0) []) := fun W => (rowB_nil 3 1 e1 w.heap.size W).sl
  have QT := hide fun V (hV : RStow V (.slice ao L.length cap) L) => hasSpotTwice_any _ L V hV
  have QP := hide fun V => isBoxPort_any p V
  go_enter Try.func9, Try.ntmps9
  by_cases h40 : 40 < L.length
  · have h40i : (40 : Int) < L.length := by omega
    have E : Hid (shOk L p = false) := by show _ = _; rw [unhide ES]; simp; omega
    have E2 := hide (unhide ENo (unhide E))
    go_wp2
    refine bodyPost_ret (v := .tuple #[.slice none 0 0, .bool false]) (by simp [results, Try.results9, go_sem]) rfl ⟨none, 0, 0, by rw [unhide E], by rw [unhide E2]; exact unhide HNl _, Below.refl _ _⟩
  have h40i : ¬ (40 : Int) < L.length := by omega
  have hl40 : L.length ≤ 40 := by omega
  go_wp2_with fail
  refine (unhide QT _ (unhide HR)).mono ?_
  rintro e w1 ⟨rfl, hb⟩
  have HW := hide hb
  clear hb QT
  cases htw : twB L with
  | true =>
    have E : Hid (shOk L p = false) := by show _ = _; rw [unhide ES, htw]; simp
    have E2 := hide (unhide ENo (unhide E))
    clear htw
    go_wp2
    refine bodyPost_ret (v := .tuple #[.slice none 0 0, .bool false]) (by simp [results, Try.results9, go_sem]) rfl ⟨none, 0, 0, by rw [unhide E], by rw [unhide E2]; exact unhide HNl _, unhide HW⟩
  | false =>
  rw [htw] at ES
  go_wp2_with fail
  refine (unhide QP _).mono ?_
  rintro e w2 ⟨rfl, rfl⟩
  clear QP htw
  cases hp : inB p 0 19 with
  | false =>
    have E : Hid (shOk L p = false) := by show _ = _; rw [unhide ES, hp]; simp
    have E2 := hide (unhide ENo (unhide E))
    clear hp
    go_wp2
    refine bodyPost_ret (v := .tuple #[.slice none 0 0, .bool false]) (by simp [results, Try.results9, go_sem]) rfl ⟨none, 0, 0, by rw [unhide E], by rw [unhide E2]; exact unhide HNl _, unhide HW⟩
  | true =>
  have E : Hid (shOk L p = true) := by show _ = _; rw [unhide ES, hp]; simp; omega
  have E2 := hide (unhide EOk (unhide E))
  clear hp ENo EOk ES
  have HN := hide (rowB_nil 3 1 e1 w.heap.size w2)
  go_wp2
  go_loopg [6, 23] L.length (fun g ov kv wr => ∃ (k m c : Nat) (ro : Option Addr), k ≤ L.length ∧ g = L.length - k ∧ kv = .int .i64 k ∧ ov = .slice ro m c ∧ m ≤ k ∧ Hid (RowB 3 1 e1 w.heap.size wr ro m c (shL L p k)) ∧ Hid (Below w.heap.size w wr))
  case atStart => exact ⟨0, 0, 0, none, Nat.zero_le _, rfl, rfl, rfl, Nat.le_refl _, unhide HN, unhide HW⟩
  case round =>
    clear HN HW
    obtain ⟨k, m, c, ro, hk, rfl, rfl, rfl, hmk, HL, HW⟩ := hrel
    by_cases hkn : k < L.length
    · have EH : Hid (shA L p k = true → shL L p (k + 1) = shL L p k ++ [(k : Int)]) := fun h => by rw [shL, if_pos h]
      have EM : Hid (shA L p k = false → shL L p (k + 1) = shL L p k) := fun h => by rw [shL, if_neg (by rw [h]; decide), List.append_nil]
      obtain ⟨b, o, n0, wt, cl, co, fr, to, sx, sy, sz, rfl, hc0, hc1, hc2, hc3, hc4, hc5, hc6, hc7, hc8, EX⟩ := recStowAt (unhide HC) hkn
      have g0 := ((unhide HW).cell (lt_of_cell hc0)).trans hc0
      have g1 := ((unhide HW).cell (lt_of_cell hc1)).trans hc1
      have g2 := ((unhide HW).cell (lt_of_cell hc2)).trans hc2
      have g3 := ((unhide HW).cell (lt_of_cell hc3)).trans hc3
      have g4 := ((unhide HW).cell (lt_of_cell hc4)).trans hc4
      have g5 := ((unhide HW).cell (lt_of_cell hc5)).trans hc5
      have g6 := ((unhide HW).cell (lt_of_cell hc6)).trans hc6
      have g7 := ((unhide HW).cell (lt_of_cell hc7)).trans hc7
      have g8 := ((unhide HW).cell (lt_of_cell hc8)).trans hc8
      have ESP : Hid (ssp (stO L k) = (sx, sy, sz)) := by show _ = _; unfold stO; rw [unhide EX]; rfl
      have EBX : Hid (sbx (stO L k) = (n0, wt, cl, co, fr, to)) := by show _ = _; unfold stO; rw [unhide EX]; rfl
      clear hc0 hc1 hc2 hc3 hc4 hc5 hc6 hc7 hc8
      have ETO : Hid (toS (stO L k) = to) := by show _ = _; unfold toS stO; rw [unhide EX]
      have EA : Hid (shA L p k = (decide (p < to) && iwB L p (sx, sy, sz) L.length)) := by show _ = _; unfold shA; rw [unhide ETO, unhide ESP]
      rw [unhide EA] at EH EM
      have hA := Below.alloc1 wr (.cells #[.string n0, .int .i64 wt, .int .i64 cl, .bool co, .int .i64 fr, .int .i64 to, .int .i64 sx, .int .i64 sy, .int .i64 sz] 40)
      have HW1 := hide (Below.step (unhide HW) hA)
      have HL1 := hide ((unhide HL).below hA)
      have hki : (k : Int) < L.length := by omega
      clear EX EBX ESP hA HW HL EA ETO
      by_cases ht : p < to
      · have f1 : decide (p < to) = true := by simp [ht]
        rw [f1] at EH EM
        have QI := hide fun V (hV : RStow V (.slice (some ⟨b, o, none⟩) L.length cap) L) => isInTheWay_any _ L sx sy sz p V hV
        unfold v3 at QI
        generalize iwB L p (sx, sy, sz) L.length = r at *
        go_wp2_with fail
        refine (unhide QI _ ((unhide HR).below (unhide HW1))).mono ?_
        rintro e w3 ⟨rfl, hb⟩
        replace HW1 := hide (Below.step (unhide HW1) hb)
        replace HL1 := hide ((unhide HL1).below hb)
        clear hb QI
        cases r with
        | true =>
          replace EH := hide (unhide EH rfl)
          have hA2 := Below.alloc1 w3 (.cells #[.int .i64 (k : Int)] 3)
          have HG := hide (ownV_alloc w3 #[.int .i64 (k : Int)] 3)
          replace HW1 := hide (Below.step (unhide HW1) hA2)
          replace HL1 := hide ((unhide HL1).below hA2)
          have hws := (unhide HW1).size
          clear EM hA2
          go_wp2_with (at_builtin; go_must (refine wpList_appRow tyInt _ rfl _ _ rfl w.heap.size ro m c (shL L p k) rfl (unhide HL1) hws (by omega) w3.heap.size (k : Int) 1 rfl (unhide HG) ?_); intro g' cap' w4 hL hK hBg hat; have HL2 := hide hL; have HK := hide hK; clear hL hK hat)
          go_roundg (L.length - (k + 1))
          case measure => omega
          case rel =>
            refine ⟨k + 1, m + 1, cap', _, by omega, rfl, by go_num, rfl, by omega, ?_, onRow_below (unhide HW1) (unhide HL1) (by decide) hws (unhide HK)⟩
            rw [unhide EH]
            exact unhide HL2
        | false =>
          replace EM := hide (unhide EM rfl)
          clear EH
          go_wp2
          go_roundg (L.length - (k + 1))
          case measure => omega
          case rel => exact ⟨k + 1, m, c, ro, by omega, rfl, by go_num, rfl, by omega, by rw [unhide EM]; exact unhide HL1, unhide HW1⟩
      · have f1 : decide (p < to) = false := by simp; omega
        rw [f1] at EM
        replace EM := hide (unhide EM rfl)
        clear EH
        go_wp2
        go_roundg (L.length - (k + 1))
        case measure => omega
        case rel => exact ⟨k + 1, m, c, ro, by omega, rfl, by go_num, rfl, by omega, by rw [unhide EM]; exact unhide HL1, unhide HW1⟩
    · have hki : ¬ (k : Int) < L.length := by omega
      have HL1 : Hid (OwnSl w.heap.size wr (.slice ro m c) (shV L p)) := by
        have h := (unhide HL).sl
        rw [show k = L.length by omega] at h
        rw [unhide E2]
        exact h
      clear HL
      go_wp2
      refine bodyPost_ret (v := .tuple #[.slice ro m c, .bool true]) (by simp [results, Try.results9, go_sem]) rfl ⟨ro, m, c, by rw [unhide E], unhide HL1, unhide HW⟩

end Go.Proofs.Ytnfdokcpjcnknaa

/- Stowage: what stands behind a port, in numbers; the program's words for it. Written by wip/mksto2.py. -/
namespace Go.Proofs.Ytnfdokcpjcnknaa
open Go.RowKit

/-- A stow that is under way at port p; one that is loaded there. -/
def her1 (p : Int) (x : StowT) : Bool := inB p (frS x) (toS x)
def pla1 (p : Int) (x : StowT) : Bool := decide (frS x = p)
def hereB (L : List StowT) (p : Int) : Bool := L.all (her1 p)
def planB (L : List StowT) (p : Int) : Bool := L.all (pla1 p)
theorem hereB_all {L : List StowT} {p : Int} (h : ∀ r, r < L.length → her1 p (stO L r) = true) : hereB L p = true := all_true h
theorem hereB_bad {L : List StowT} {p : Int} {k : Nat} (hk : k < L.length) (h : her1 p (stO L k) = false) : hereB L p = false := all_false hk h
theorem planB_all {L : List StowT} {p : Int} (h : ∀ r, r < L.length → pla1 p (stO L r) = true) : planB L p = true := all_true h
theorem planB_bad {L : List StowT} {p : Int} {k : Nat} (hk : k < L.length) (h : pla1 p (stO L k) = false) : planB L p = false := all_false hk h
/-- Those of the first k that stay. -/
def stayT (L : List StowT) (p : Int) : Nat → List StowT
  | 0 => []
  | k + 1 => stayT L p k ++ (if toS (stO L k) = p then [] else [stO L k])
def stayL (L : List StowT) (p : Int) : List StowT := stayT L p L.length
theorem stayT_len (L : List StowT) (p : Int) : ∀ k, (stayT L p k).length ≤ k
  | 0 => Nat.le_refl _
  | k + 1 => by
    have := stayT_len L p k
    rw [stayT, List.length_append]
    split <;> simp <;> omega
/-- What is told behind a port. -/
def apC (H : List HatchT) (L : List StowT) (p : Int) (P : List StowT) : Int :=
  if (wellB H L && decide (P.length ≤ 40) && inB p 0 19) = false then 1 else if (hereB L p && planB P p) = false then 2 else if wellB H (stayL L p ++ P) = false then 3 else 0
def apV0 (H : List HatchT) (L : List StowT) (p : Int) (P : List StowT) : List StowT := if apC H L p P = 0 then stayL L p ++ P else L
def apV1 (H : List HatchT) (L : List StowT) (p : Int) (P : List StowT) : Int := if apC H L p P = 0 then ((shV L p).length : Int) else 0
theorem ap_not {H : List HatchT} {L : List StowT} {p : Int} {P : List StowT} {c : Int} (h : apC H L p P = c) (hc : c ≠ 0) : apV0 H L p P = L ∧ apV1 H L p P = 0 := by
  unfold apV0 apV1
  rw [h, if_neg hc, if_neg hc]
  exact ⟨rfl, rfl⟩
theorem ap_done {H : List HatchT} {L : List StowT} {p : Int} {P : List StowT} (h : apC H L p P = 0) : apV0 H L p P = stayL L p ++ P ∧ apV1 H L p P = ((shV L p).length : Int) := by
  unfold apV0 apV1
  rw [if_pos h, if_pos h]
  exact ⟨rfl, rfl⟩
theorem apC_1 {H : List HatchT} {L : List StowT} {p : Int} {P : List StowT} (h : (wellB H L && decide (P.length ≤ 40) && inB p 0 19) = false) : apC H L p P = 1 := by rw [apC, if_pos h]
theorem apC_2 {H : List HatchT} {L : List StowT} {p : Int} {P : List StowT} (h : (wellB H L && decide (P.length ≤ 40) && inB p 0 19) = true) (h2 : (hereB L p && planB P p) = false) : apC H L p P = 2 := by rw [apC, if_neg (by rw [h]; decide), if_pos h2]
theorem apC_3 {H : List HatchT} {L : List StowT} {p : Int} {P : List StowT} (h : (wellB H L && decide (P.length ≤ 40) && inB p 0 19) = true) (h2 : (hereB L p && planB P p) = true) (h3 : wellB H (stayL L p ++ P) = false) : apC H L p P = 3 := by rw [apC, if_neg (by rw [h]; decide), if_neg (by rw [h2]; decide), if_pos h3]
theorem apC_0 {H : List HatchT} {L : List StowT} {p : Int} {P : List StowT} (h : (wellB H L && decide (P.length ≤ 40) && inB p 0 19) = true) (h2 : (hereB L p && planB P p) = true) (h3 : wellB H (stayL L p ++ P) = true) : apC H L p P = 0 := by rw [apC, if_neg (by rw [h]; decide), if_neg (by rw [h2]; decide), if_neg (by rw [h3]; decide)]
theorem apV0_len (H : List HatchT) (L : List StowT) (p : Int) (P : List StowT) : (apV0 H L p P).length ≤ 40 ∨ (apV0 H L p P).length ≤ L.length := by
  by_cases h : apC H L p P = 0
  · left
    have hd := (ap_done h).1
    have hw : wellB H (stayL L p ++ P) = true := by
      unfold apC at h
      split at h
      · omega
      · split at h
        · omega
        · split at h
          · omega
          next h3 => simpa using h3
    rw [hd]
    exact (wellB_iff.1 hw).2.1
  · right
    rw [(ap_not rfl h).1]
    exact Nat.le_refl _

set_option maxRecDepth 10000 in
set_option maxHeartbeats 1600000 in
theorem ownCopyStow_any (ar : Option Addr) (m cr : Nat) (L : List StowT) (w : World) (h : RStow w (.slice ar m cr) L) (hm : m ≤ 1048576) :
    Calls Try.prog 20 #[.slice ar m cr] w fun e w' => e = .returned (.slice (some ⟨w.heap.size, 0, none⟩) m m) ∧ OwnV w' w.heap.size (recCells 9 eStow L) ∧ Below w.heap.size w w' := by
  have hlen : L.length = m := by
    obtain ⟨ao', cap', e, _⟩ := h
    simp only [Value.slice.injEq] at e
    exact e.2.1.symm
  have hmk := run_make_recs (P := Try.prog) 25 40 _ 9 80 Try.underlying25 Try.infoStow .i64 .i64 m (by omega) (by omega)
  obtain ⟨Z, eZ⟩ : ∃ Z, Z = (vStow ⟨#[]⟩ 0 0 false 0 0 0 0 0).cells := ⟨_, rfl⟩
  rw [← eZ] at hmk
  have hsz : (Try.prog.info? 40).map (·.size) = some 9 := by
    obtain ⟨i0, hi, hz⟩ := Option.map_eq_some_iff.1 Try.infoStow
    simp only [Prod.mk.injEq] at hz
    rw [hi, Option.map_some, hz.2.1]
  have HSRC := hide (recs_src h)
  have HCS : Hid (((recCells 9 eStow L)).length = (m * 9)) := by show _ = _; rw [recCells_length, hlen]
  have H1 : Hid (∀ v ∈ (recCells 9 eStow L), v.oneCell' = true) := fun v hv => by
    exact tyStow.cells L v hv
  have A := Below.alloc1 w (.cells (madeCells Z (m * 9)) 40)
  have HW := hide A
  have O := ownV_alloc w (madeCells Z (m * 9)) 40
  have HO := hide O
  have hzl : (madeCells Z (m * 9)).toList.length = (m * 9) := by simp [madeCells]
  have HZL := hide hzl
  have HSRC2 : Hid (0 < m → ∃ ad, ar = some ad ∧ ∀ j v, ((recCells 9 eStow L))[j]? = some v → (w.alloc (.cells (madeCells Z (m * 9)) 40)).cell? (ad.add j) = some v) := fun hp => by
    obtain ⟨ad, e, hx⟩ := unhide HSRC hp
    exact ⟨ad, e, fun j v hj => ((A.cell (lt_of_cell (hx j v hj))).trans (hx j v hj))⟩
  obtain ⟨w1, hrun, hO1, hb1⟩ := run_copy_all 25 25 40 9 Try.underlying25 hsz w.heap.size m m ar cr _ _ (unhide HO) (by rw [unhide HZL, unhide HCS]) (unhide HCS) (unhide HSRC2) (unhide H1) w.heap.size w (unhide HW) (Nat.le_refl _)
  have HO1 := hide hO1
  have HW1 := hide hb1
  clear h eZ A O hzl HSRC hsz HO HW HSRC2 H1 HCS HZL hO1 hb1 hlen
  go_enter Try.func20, Try.ntmps20
  go_wp2
  go_ret
  exact ⟨rfl, unhide HO1, unhide HW1⟩

theorem isStowedWell_any (bv lv : Value) (H : List HatchT) (L : List StowT) (w : World) (hH : RHatch w bv H) (hL : RStow w lv L) :
    Calls Try.prog 18 #[bv, lv] w fun e w' => e = .returned (.bool (wellB H L)) ∧ Below w.heap.size w w' := by
  have Q := hide (implStowCode_any bv lv H L w hH hL)
  obtain ⟨ao, cap, rfl, _⟩ := hL
  obtain ⟨ho, hcap, rfl, _⟩ := hH
  have E : Hid (wellB H L = decide ((stowC H L).1 = 0)) := rfl
  generalize stowC H L = C at *
  obtain ⟨c, k⟩ := C
  dsimp only at Q E
  by_cases hc : c = 0
  · rw [decide_eq_true hc] at E
    have d1 : (c == 0) = true := by simp [hc]
    have d2 : decide (c = 0) = true := by simp [hc]
    have HC := hide hc
    clear hc
    go_enter Try.func18, Try.ntmps18
    go_wp2_with fail
    refine (unhide Q).mono ?_
    rintro e w1 ⟨rfl, hb⟩
    have HW := hide hb
    clear hb Q
    go_wp2
    go_ret
    exact ⟨by rw [unhide E]; rfl, unhide HW⟩
  · rw [decide_eq_false hc] at E
    have d1 : (c == 0) = false := by simp [hc]
    have d2 : decide (c = 0) = false := by simp [hc]
    have HC := hide hc
    clear hc
    go_enter Try.func18, Try.ntmps18
    go_wp2_with fail
    refine (unhide Q).mono ?_
    rintro e w1 ⟨rfl, hb⟩
    have HW := hide hb
    clear hb Q
    go_wp2
    go_ret
    exact ⟨by rw [unhide E]; rfl, unhide HW⟩

set_option maxRecDepth 10000 in
set_option maxHeartbeats 3200000 in
theorem isUnderWay_any (v : Value) (L : List StowT) (p : Int) (w : World) (h : RStow w v L) :
    Calls Try.prog 21 #[v, .int .i64 p] w fun e w' => e = .returned (.bool (hereB L p)) ∧ Below w.heap.size w w' := by
  obtain ⟨ao, cap, rfl, hl, hm, hc⟩ := h
  unfold maxLen at hm
  have HC := hide hc
  clear hc
  have E1 : Hid ((∀ r, r < L.length → her1 p (stO L r) = true) → hereB L p = true) := hereB_all
  have E2 : Hid (∀ k, k < L.length → her1 p (stO L k) = false → hereB L p = false) := fun k => hereB_bad
  go_enter Try.func21, Try.ntmps21
  go_wp2
  go_loopg [9] L.length (fun g i wr => ∃ k : Nat, k ≤ L.length ∧ g = L.length - k ∧ i = .int .i64 k ∧ Hid (∀ r, r < k → her1 p (stO L r) = true) ∧ Hid (Below w.heap.size w wr))
  case atStart => exact ⟨0, Nat.zero_le _, rfl, rfl, fun r hr => by omega, Below.refl _ _⟩
  case round =>
    obtain ⟨k, hk, rfl, rfl, HA, HW⟩ := hrel
    by_cases hkn : k < L.length
    · have HAk := hide (unhide E2 k hkn)
      obtain ⟨b, o, n0, wt, cl, co, fr, to, sx, sy, sz, rfl, hc0, hc1, hc2, hc3, hc4, hc5, hc6, hc7, hc8, EX⟩ := recStowAt (unhide HC) hkn
      have g0 := ((unhide HW).cell (lt_of_cell hc0)).trans hc0
      have g1 := ((unhide HW).cell (lt_of_cell hc1)).trans hc1
      have g2 := ((unhide HW).cell (lt_of_cell hc2)).trans hc2
      have g3 := ((unhide HW).cell (lt_of_cell hc3)).trans hc3
      have g4 := ((unhide HW).cell (lt_of_cell hc4)).trans hc4
      have g5 := ((unhide HW).cell (lt_of_cell hc5)).trans hc5
      have g6 := ((unhide HW).cell (lt_of_cell hc6)).trans hc6
      have g7 := ((unhide HW).cell (lt_of_cell hc7)).trans hc7
      have g8 := ((unhide HW).cell (lt_of_cell hc8)).trans hc8
      have ESP : Hid (ssp (stO L k) = (sx, sy, sz)) := by show _ = _; unfold stO; rw [unhide EX]; rfl
      have EBX : Hid (sbx (stO L k) = (n0, wt, cl, co, fr, to)) := by show _ = _; unfold stO; rw [unhide EX]; rfl
      clear hc0 hc1 hc2 hc3 hc4 hc5 hc6 hc7 hc8
      have EO : Hid (her1 p (stO L k) = inB p fr to) := by show _ = _; unfold stO; rw [unhide EX]; rfl
      have HA1 : Hid (her1 p (stO L k) = true → ∀ r, r < k + 1 → her1 p (stO L r) = true) := fun h r hr => by
        by_cases e : r = k
        · rw [e]; exact h
        · exact unhide HA r (by omega)
      rw [unhide EO] at HAk HA1
      have hA := Below.alloc1 wr (.cells #[.string n0, .int .i64 wt, .int .i64 cl, .bool co, .int .i64 fr, .int .i64 to, .int .i64 sx, .int .i64 sy, .int .i64 sz] 40)
      have HW1 := hide (Below.step (unhide HW) hA)
      have hki : (k : Int) < L.length := by omega
      clear EX EBX ESP hA HW EO HA
      have QI := hide fun V => within_any p fr to V
      generalize inB p fr to = r at *
      go_wp2_with fail
      refine (unhide QI _).mono ?_
      rintro e w2 ⟨rfl, rfl⟩
      clear QI
      cases r with
      | false =>
        have E := hide (unhide HAk rfl)
        clear HAk HA1 E1 E2
        go_wp2
        go_ret
        exact ⟨by rw [unhide E]; rfl, unhide HW1⟩
      | true =>
        replace HA1 := hide (unhide HA1 rfl)
        clear HAk
        go_wp2
        go_roundg (L.length - (k + 1))
        case measure => omega
        case rel => exact ⟨k + 1, by omega, rfl, by go_num, unhide HA1, unhide HW1⟩
    · have hki : ¬ (k : Int) < L.length := by omega
      have hkk : k = L.length := by omega
      have E := hide (unhide E1 (by rw [← hkk]; exact unhide HA))
      clear hkk E1
      go_wp2
      go_ret
      exact ⟨by rw [unhide E]; rfl, unhide HW⟩

set_option maxRecDepth 10000 in
set_option maxHeartbeats 3200000 in
theorem isLoadedAt_any (v : Value) (L : List StowT) (p : Int) (w : World) (h : RStow w v L) :
    Calls Try.prog 22 #[v, .int .i64 p] w fun e w' => e = .returned (.bool (planB L p)) ∧ Below w.heap.size w w' := by
  obtain ⟨ao, cap, rfl, hl, hm, hc⟩ := h
  unfold maxLen at hm
  have HC := hide hc
  clear hc
  have E1 : Hid ((∀ r, r < L.length → pla1 p (stO L r) = true) → planB L p = true) := planB_all
  have E2 : Hid (∀ k, k < L.length → pla1 p (stO L k) = false → planB L p = false) := fun k => planB_bad
  go_enter Try.func22, Try.ntmps22
  go_wp2
  go_loopg [9] L.length (fun g i wr => ∃ k : Nat, k ≤ L.length ∧ g = L.length - k ∧ i = .int .i64 k ∧ Hid (∀ r, r < k → pla1 p (stO L r) = true) ∧ Hid (Below w.heap.size w wr))
  case atStart => exact ⟨0, Nat.zero_le _, rfl, rfl, fun r hr => by omega, Below.refl _ _⟩
  case round =>
    obtain ⟨k, hk, rfl, rfl, HA, HW⟩ := hrel
    by_cases hkn : k < L.length
    · have HAk := hide (unhide E2 k hkn)
      obtain ⟨b, o, n0, wt, cl, co, fr, to, sx, sy, sz, rfl, hc0, hc1, hc2, hc3, hc4, hc5, hc6, hc7, hc8, EX⟩ := recStowAt (unhide HC) hkn
      have g0 := ((unhide HW).cell (lt_of_cell hc0)).trans hc0
      have g1 := ((unhide HW).cell (lt_of_cell hc1)).trans hc1
      have g2 := ((unhide HW).cell (lt_of_cell hc2)).trans hc2
      have g3 := ((unhide HW).cell (lt_of_cell hc3)).trans hc3
      have g4 := ((unhide HW).cell (lt_of_cell hc4)).trans hc4
      have g5 := ((unhide HW).cell (lt_of_cell hc5)).trans hc5
      have g6 := ((unhide HW).cell (lt_of_cell hc6)).trans hc6
      have g7 := ((unhide HW).cell (lt_of_cell hc7)).trans hc7
      have g8 := ((unhide HW).cell (lt_of_cell hc8)).trans hc8
      have ESP : Hid (ssp (stO L k) = (sx, sy, sz)) := by show _ = _; unfold stO; rw [unhide EX]; rfl
      have EBX : Hid (sbx (stO L k) = (n0, wt, cl, co, fr, to)) := by show _ = _; unfold stO; rw [unhide EX]; rfl
      clear hc0 hc1 hc2 hc3 hc4 hc5 hc6 hc7 hc8
      have EO : Hid (pla1 p (stO L k) = decide (fr = p)) := by show _ = _; unfold stO; rw [unhide EX]; rfl
      have HA1 : Hid (pla1 p (stO L k) = true → ∀ r, r < k + 1 → pla1 p (stO L r) = true) := fun h r hr => by
        by_cases e : r = k
        · rw [e]; exact h
        · exact unhide HA r (by omega)
      rw [unhide EO] at HAk HA1
      have hA := Below.alloc1 wr (.cells #[.string n0, .int .i64 wt, .int .i64 cl, .bool co, .int .i64 fr, .int .i64 to, .int .i64 sx, .int .i64 sy, .int .i64 sz] 40)
      have HW1 := hide (Below.step (unhide HW) hA)
      have hki : (k : Int) < L.length := by omega
      clear EX EBX ESP hA HW EO HA
      by_cases hf : fr = p
      · rw [decide_eq_true hf] at HA1
        have d1 : (fr != p) = false := by simp [hf]
        have d2 : (fr == p) = true := by simp [hf]
        clear hf
        replace HA1 := hide (unhide HA1 rfl)
        clear HAk
        go_wp2
        go_roundg (L.length - (k + 1))
        case measure => omega
        case rel => exact ⟨k + 1, by omega, rfl, by go_num, unhide HA1, unhide HW1⟩
      · rw [decide_eq_false hf] at HAk
        have d1 : (fr != p) = true := by simp [hf]
        have d2 : (fr == p) = false := by simp [hf]
        clear hf
        have E := hide (unhide HAk rfl)
        clear HAk HA1 E1 E2
        go_wp2
        go_ret
        exact ⟨by rw [unhide E]; rfl, unhide HW1⟩
    · have hki : ¬ (k : Int) < L.length := by omega
      have hkk : k = L.length := by omega
      have E := hide (unhide E1 (by rw [← hkk]; exact unhide HA))
      clear hkk E1
      go_wp2
      go_ret
      exact ⟨by rw [unhide E]; rfl, unhide HW⟩

set_option maxRecDepth 10000 in
set_option maxHeartbeats 6400000 in
theorem staying_any (v : Value) (L : List StowT) (p : Int) (w : World) (h : RStow w v L) (hs : L.length ≤ 1048576) :
    Calls Try.prog 23 #[v, .int .i64 p] w fun e w' => ∃ ao m cap, e = .returned (.slice ao m cap) ∧ RowB 40 9 eStow w.heap.size w' ao m cap (stayL L p) ∧ m ≤ L.length ∧ Below w.heap.size w w' := by
  obtain ⟨ao, cap, rfl, hl, hm, hc⟩ := h
  unfold maxLen at hm
  have HC := hide hc
  clear hc
  have HN := hide (rowB_nil 40 9 eStow w.heap.size w)
  go_enter Try.func23, Try.ntmps23
  go_wp2
  go_loopg [5, 10] L.length (fun g ov kv wr => ∃ (k m c : Nat) (ro : Option Addr), k ≤ L.length ∧ g = L.length - k ∧ kv = .int .i64 k ∧ ov = .slice ro m c ∧ m ≤ k ∧ Hid (RowB 40 9 eStow w.heap.size wr ro m c (stayT L p k)) ∧ Hid (Below w.heap.size w wr))
  case atStart => exact ⟨0, 0, 0, none, Nat.zero_le _, rfl, rfl, rfl, Nat.le_refl _, unhide HN, Below.refl _ _⟩
  case round =>
    clear HN
    obtain ⟨k, m, c, ro, hk, rfl, rfl, rfl, hmk, HL, HW⟩ := hrel
    by_cases hkn : k < L.length
    · have EH : Hid (toS (stO L k) ≠ p → stayT L p (k + 1) = stayT L p k ++ [stO L k]) := fun h => by rw [stayT, if_neg h]
      have EM : Hid (toS (stO L k) = p → stayT L p (k + 1) = stayT L p k) := fun h => by rw [stayT, if_pos h, List.append_nil]
      obtain ⟨b, o, n0, wt, cl, co, fr, to, sx, sy, sz, rfl, hc0, hc1, hc2, hc3, hc4, hc5, hc6, hc7, hc8, EX⟩ := recStowAt (unhide HC) hkn
      have g0 := ((unhide HW).cell (lt_of_cell hc0)).trans hc0
      have g1 := ((unhide HW).cell (lt_of_cell hc1)).trans hc1
      have g2 := ((unhide HW).cell (lt_of_cell hc2)).trans hc2
      have g3 := ((unhide HW).cell (lt_of_cell hc3)).trans hc3
      have g4 := ((unhide HW).cell (lt_of_cell hc4)).trans hc4
      have g5 := ((unhide HW).cell (lt_of_cell hc5)).trans hc5
      have g6 := ((unhide HW).cell (lt_of_cell hc6)).trans hc6
      have g7 := ((unhide HW).cell (lt_of_cell hc7)).trans hc7
      have g8 := ((unhide HW).cell (lt_of_cell hc8)).trans hc8
      have ESP : Hid (ssp (stO L k) = (sx, sy, sz)) := by show _ = _; unfold stO; rw [unhide EX]; rfl
      have EBX : Hid (sbx (stO L k) = (n0, wt, cl, co, fr, to)) := by show _ = _; unfold stO; rw [unhide EX]; rfl
      clear hc0 hc1 hc2 hc3 hc4 hc5 hc6 hc7 hc8
      have ETO : Hid (toS (stO L k) = to) := by show _ = _; unfold toS stO; rw [unhide EX]
      have EST : Hid (stO L k = (n0, wt, cl, co, fr, to, sx, sy, sz)) := by show _ = _; unfold stO; rw [unhide EX]
      rw [unhide ETO, unhide EST] at EH
      rw [unhide ETO] at EM
      have hA := Below.alloc1 wr (.cells #[.string n0, .int .i64 wt, .int .i64 cl, .bool co, .int .i64 fr, .int .i64 to, .int .i64 sx, .int .i64 sy, .int .i64 sz] 40)
      have HX := hide (ownV_alloc wr #[.string n0, .int .i64 wt, .int .i64 cl, .bool co, .int .i64 fr, .int .i64 to, .int .i64 sx, .int .i64 sy, .int .i64 sz] 40)
      have HW1 := hide (Below.step (unhide HW) hA)
      have HL1 := hide ((unhide HL).below hA)
      have hki : (k : Int) < L.length := by omega
      clear EX EBX ESP hA HW HL ETO EST
      by_cases ht : to = p
      · have d1 : (to != p) = false := by simp [ht]
        have d2 : (to == p) = true := by simp [ht]
        replace EM := hide (unhide EM ht)
        clear EH ht
        go_wp2
        go_roundg (L.length - (k + 1))
        case measure => omega
        case rel => exact ⟨k + 1, m, c, ro, by omega, rfl, by go_num, rfl, by omega, by rw [unhide EM]; exact unhide HL1, unhide HW1⟩
      · have d1 : (to != p) = true := by simp [ht]
        have d2 : (to == p) = false := by simp [ht]
        replace EH := hide (unhide EH ht)
        clear EM ht
        obtain ⟨V1, eV⟩ : ∃ V, V = wr.alloc (.cells #[.string n0, .int .i64 wt, .int .i64 cl, .bool co, .int .i64 fr, .int .i64 to, .int .i64 sx, .int .i64 sy, .int .i64 sz] 40) := ⟨_, rfl⟩
        rw [← eV] at HX HW1 HL1
        have hA2 := Below.alloc1 V1 (.cells #[.string n0, .int .i64 wt, .int .i64 cl, .bool co, .int .i64 fr, .int .i64 to, .int .i64 sx, .int .i64 sy, .int .i64 sz] 40)
        have HG : Hid (OwnV (V1.alloc (.cells #[.string n0, .int .i64 wt, .int .i64 cl, .bool co, .int .i64 fr, .int .i64 to, .int .i64 sx, .int .i64 sy, .int .i64 sz] 40)) (wr.heap.size + 1) [.string n0, .int .i64 wt, .int .i64 cl, .bool co, .int .i64 fr, .int .i64 to, .int .i64 sx, .int .i64 sy, .int .i64 sz]) := by
          have h := ownV_alloc V1 #[.string n0, .int .i64 wt, .int .i64 cl, .bool co, .int .i64 fr, .int .i64 to, .int .i64 sx, .int .i64 sy, .int .i64 sz] 40
          rw [eV] at h ⊢
          simp only [World.size_alloc] at h
          exact h
        replace HW1 := hide (Below.step (unhide HW1) hA2)
        replace HL1 := hide ((unhide HL1).below hA2)
        have hws := (unhide HW1).size
        clear hA2
        subst eV
        go_wp2_with (at_builtin; go_must (refine wpList_appRow tyStow _ rfl _ _ rfl w.heap.size ro m c (stayT L p k) rfl (unhide HL1) hws (by omega) (wr.heap.size + 1) (n0, wt, cl, co, fr, to, sx, sy, sz) 1 rfl (unhide HG) ?_); intro g' cap' w3 hL hK hBg hat; have HL2 := hide hL; have HK := hide hK; clear hL hK hat)
        go_roundg (L.length - (k + 1))
        case measure => omega
        case rel =>
          refine ⟨k + 1, m + 1, cap', _, by omega, rfl, by go_num, rfl, by omega, ?_, onRow_below (unhide HW1) (unhide HL1) (by decide) hws (unhide HK)⟩
          rw [unhide EH]
          exact unhide HL2
    · have hki : ¬ (k : Int) < L.length := by omega
      have HL1 : Hid (RowB 40 9 eStow w.heap.size wr ro m c (stayL L p)) := by
        have h := unhide HL
        rw [show k = L.length by omega] at h
        exact h
      clear HL
      go_wp2
      go_ret
      exact ⟨ro, m, c, rfl, unhide HL1, by omega, unhide HW⟩

end Go.Proofs.Ytnfdokcpjcnknaa

/- A voyage in numbers: what AtPort's being done says. No statement about the program stands here. -/
namespace Go.Proofs.Ytnfdokcpjcnknaa
open Go.RowKit

theorem all_get {L : List StowT} {f : StowT → Bool} (h : L.all f = true) {i : Nat} (hi : i < L.length) : f (stO L i) = true := List.all_eq_true.1 h _ (stO_mem hi)
theorem apC_parts {H : List HatchT} {L : List StowT} {p : Int} {P : List StowT} (h : apC H L p P = 0) : wellB H L = true ∧ P.length ≤ 40 ∧ inB p 0 19 = true ∧ hereB L p = true ∧ planB P p = true ∧ wellB H (stayL L p ++ P) = true := by
  unfold apC at h
  by_cases h1 : (wellB H L && decide (P.length ≤ 40) && inB p 0 19) = false
  · rw [if_pos h1] at h; omega
  rw [if_neg h1] at h
  by_cases h2 : (hereB L p && planB P p) = false
  · rw [if_pos h2] at h; omega
  rw [if_neg h2] at h
  by_cases h3 : wellB H (stayL L p ++ P) = false
  · rw [if_pos h3] at h; omega
  rw [Bool.not_eq_false] at h1 h2 h3
  simp only [Bool.and_eq_true, decide_eq_true_eq] at h1 h2
  exact ⟨h1.1.1, h1.1.2, h1.2, h2.1, h2.2, h3⟩
theorem well_f {H : List HatchT} {L : List StowT} (h : wellB H L = true) {i : Nat} (hi : i < L.length) : f1 L i = false ∧ f2 L i = false := by
  obtain ⟨-, -, h3⟩ := wellB_iff.1 h
  exact ⟨h3 1 (by omega) (by omega) i hi, h3 2 (by omega) (by omega) i hi⟩
theorem well_twB {H : List HatchT} {L : List StowT} (h : wellB H L = true) : twB L = false := by
  rw [twB, decide_eq_false_iff_not]
  rintro ⟨i, hi, hh⟩
  have h2 := (well_f h hi).2
  rw [f2, decide_eq_false_iff_not] at h2
  rw [hasB, decide_eq_true_eq] at hh
  obtain ⟨k, hk, e⟩ := hh
  rw [List.length_take] at hk
  refine h2 ⟨k, by omega, Or.inr ?_⟩
  rw [← e]
  unfold stO
  congr 1
  rw [List.getD_eq_getElem?_getD, List.getD_eq_getElem?_getD, List.getElem?_take, if_pos (by omega)]
theorem well_shOk {H : List HatchT} {L : List StowT} {p : Int} (h : wellB H L = true) (hp : inB p 0 19 = true) : shOk L p = true := by
  unfold shOk
  rw [well_twB h, hp, decide_eq_true (wellB_iff.1 h).2.1]
  rfl
theorem shL_mem {L : List StowT} {p : Int} : ∀ {n : Nat} {q : Int}, q ∈ shL L p n → ∃ i : Nat, q = (i : Int) ∧ i < n ∧ shA L p i = true
  | 0, q, h => by simp [shL] at h
  | n + 1, q, h => by
    rw [shL, List.mem_append] at h
    rcases h with h | h
    · obtain ⟨i, e, hi, hs⟩ := shL_mem h
      exact ⟨i, e, by omega, hs⟩
    · by_cases hs : shA L p n = true
      · rw [if_pos hs] at h
        simp only [List.mem_singleton] at h
        exact ⟨n, h, by omega, hs⟩
      · rw [if_neg hs] at h
        simp at h
theorem shV_get {L : List StowT} {p : Int} (ho : shOk L p = true) {j : Nat} (hj : j < (shV L p).length) : ∃ i : Nat, (shV L p).getD j 0 = (i : Int) ∧ i < L.length ∧ shA L p i = true := by
  have hm : (shV L p).getD j 0 ∈ shL L p L.length := by
    rw [List.getD_eq_getElem?_getD, List.getElem?_eq_getElem hj]
    have := List.getElem_mem hj
    have e : shV L p = shL L p L.length := by rw [shV, if_pos ho]
    rw [← e]
    exact this
  exact shL_mem hm
/-- One of the first n goes at p and stands below. -/
theorem iwB_succ (L : List StowT) (p : Int) (s : I3) (n : Nat) : iwB L p s (n + 1) = (iwB L p s n || onB L p s n) := by
  rw [Bool.eq_iff_iff, Bool.or_eq_true]
  simp only [iwB, decide_eq_true_eq]
  constructor
  · rintro ⟨k, hk, h⟩
    by_cases e : k = n
    · subst e; exact Or.inr h
    · exact Or.inl ⟨k, by omega, h⟩
  · rintro (⟨k, hk, h⟩ | h)
    · exact ⟨k, by omega, h⟩
    · exact ⟨n, by omega, h⟩
theorem iwB_zero (L : List StowT) (p : Int) (s : I3) : iwB L p s 0 = false := by
  rw [iwB, decide_eq_false_iff_not]
  rintro ⟨k, hk, _⟩
  omega
def cntS (L : List StowT) (p : Int) (k : Nat) : Int := ((stayT L p k).length : Int)
theorem cntS_succ (L : List StowT) (p : Int) (k : Nat) : cntS L p (k + 1) = cntS L p k + (if toS (stO L k) = p then 0 else 1) := by
  unfold cntS
  rw [stayT, List.length_append]
  split <;> simp
theorem cntS_bd (L : List StowT) (p : Int) (k : Nat) : 0 ≤ cntS L p k ∧ cntS L p k ≤ k := by
  have := stayT_len L p k
  unfold cntS
  omega
theorem stayT_to {L : List StowT} {p : Int} : ∀ {n : Nat} {x : StowT}, x ∈ stayT L p n → toS x ≠ p
  | 0, x, h => by simp [stayT] at h
  | n + 1, x, h => by
    rw [stayT, List.mem_append] at h
    rcases h with h | h
    · exact stayT_to h
    · by_cases e : toS (stO L n) = p
      · rw [if_pos e] at h; simp at h
      · rw [if_neg e] at h
        simp only [List.mem_singleton] at h
        rw [h]
        exact e
theorem box_to {x : BoxT} (h : boxT x = true) : x.2.2.2.2.1 < x.2.2.2.2.2 := by
  unfold boxT boxB at h
  simp only [Bool.and_eq_true, decide_eq_true_eq] at h
  exact h.2.2.1
theorem voy_out {H : List HatchT} {L : List StowT} {p : Int} {P : List StowT} (h : apC H L p P = 0) {i : Nat} (hi : i < (stayL L p ++ P).length) : toS (stO (stayL L p ++ P) i) ≠ p := by
  obtain ⟨-, -, -, -, hp, hw⟩ := apC_parts h
  by_cases hl : i < (stayL L p).length
  · refine stayT_to (L := L) (n := L.length) ?_
    have := stO_mem hl
    unfold stO at this ⊢
    rw [List.getD_eq_getElem?_getD] at this ⊢
    rw [List.getElem?_append_left hl]
    exact this
  · rw [List.length_append] at hi
    have hb := (well_f hw (i := i) (by rw [List.length_append]; exact hi)).1
    unfold f1 at hb
    rw [Bool.not_eq_false'] at hb
    have hlt := box_to hb
    have hm : stO (stayL L p ++ P) i = stO P (i - (stayL L p).length) := by
      unfold stO
      rw [List.getD_eq_getElem?_getD, List.getD_eq_getElem?_getD, List.getElem?_append_right (by omega)]
    have hf := all_get hp (i := i - (stayL L p).length) (by omega)
    rw [pla1, decide_eq_true_eq] at hf
    rw [hm] at hlt ⊢
    have h1 : (sbx (stO P (i - (stayL L p).length))).2.2.2.2.1 = frS (stO P (i - (stayL L p).length)) := rfl
    have h2 : (sbx (stO P (i - (stayL L p).length))).2.2.2.2.2 = toS (stO P (i - (stayL L p).length)) := rfl
    omega

end Go.Proofs.Ytnfdokcpjcnknaa

/- Stowage: the specification's Shifts. Written by wip/mksto2.py. -/
namespace Go.Proofs.Ytnfdokcpjcnknaa
open Go.RowKit

end Go.Proofs.Ytnfdokcpjcnknaa

/- Stowage: both AtPort. Written by wip/mksto2.py. -/
namespace Go.Proofs.Ytnfdokcpjcnknaa
open Go.RowKit

set_option maxRecDepth 10000 in
set_option maxHeartbeats 12800000 in
theorem implAtPort_any (bv lv pv : Value) (H : List HatchT) (L : List StowT) (p : Int) (P : List StowT) (w : World) (hH : RHatch w bv H) (hL : RStow w lv L) (hsL : L.length ≤ 1048576) (hP : RStow w pv P) :
    Calls Try.prog 6 #[bv, lv, .int .i64 p, pv] w fun e w' => ∃ a n cp, e = .returned (.tuple #[.slice a n cp, .int .i64 (apV1 H L p P), .int .i64 (apC H L p P)]) ∧ OwnR 9 eStow w.heap.size w' (.slice a n cp) (apV0 H L p P) ∧ Below w.heap.size w w' := by
  have HRL := hide hL
  have HRH := hide hH
  have HRP := hide hP
  obtain ⟨ao, cap, rfl, hl, hm, hc⟩ := hL
  obtain ⟨ho, hcap, rfl, hhl, hhm, hhc⟩ := hH
  obtain ⟨po, pcap, rfl, hpl, hpm, hpc⟩ := hP
  unfold maxLen at hm hhm hpm
  have HPC := hide hpc
  have HC := hide hc
  clear hc hhc hpc
  have A1 := hide (apC_1 (H := H) (L := L) (p := p) (P := P))
  have A2 := hide (apC_2 (H := H) (L := L) (p := p) (P := P))
  have A3 := hide (apC_3 (H := H) (L := L) (p := p) (P := P))
  have A0 := hide (apC_0 (H := H) (L := L) (p := p) (P := P))
  have AN := hide fun c h hc => ap_not (H := H) (L := L) (p := p) (P := P) (c := c) h hc
  have AD := hide (ap_done (H := H) (L := L) (p := p) (P := P))
  have QW := hide fun V (h1 : RHatch V (.slice ho H.length hcap) H) (h2 : RStow V (.slice ao L.length cap) L) => isStowedWell_any _ _ H L V h1 h2
  have QC := hide fun V (h : RStow V (.slice ao L.length cap) L) => ownCopyStow_any ao L.length cap L V h hsL
  have QP := hide fun V => isBoxPort_any p V
  have QU := hide fun V (h : RStow V (.slice ao L.length cap) L) => isUnderWay_any _ L p V h
  have QL := hide fun V (h : RStow V (.slice po P.length pcap) P) => isLoadedAt_any _ P p V h
  have QS := hide fun V (h : RStow V (.slice ao L.length cap) L) => staying_any _ L p V h hsL
  have QX := hide fun V va (h1 : RHatch V (.slice ho H.length hcap) H) (h2 : RStow V va (stayL L p ++ P)) => isStowedWell_any _ va H (stayL L p ++ P) V h1 h2
  have QH := hide fun V (h : RStow V (.slice ao L.length cap) L) => implShifts_any _ L p V h
  go_enter Try.func6, Try.ntmps6
  go_wp2_with fail
  refine (unhide QW _ (unhide HRH) (unhide HRL)).mono ?_
  rintro e w1 ⟨rfl, hb⟩
  have HW := hide hb
  clear hb QW
  cases hw : wellB H L with
  | false =>
    rw [hw] at A1
    have E := hide (unhide A1 rfl)
    have E0 := hide (unhide AN 1 (unhide E) (by decide))
    clear A1 A2 A3 A0 AN AD
    go_wp2_with fail
    refine (unhide QC _ ((unhide HRL).below (unhide HW))).mono ?_
    rintro e wz ⟨rfl, ho', hb⟩
    have HO := hide ho'
    have hws := (unhide HW).size
    replace HW := hide (Below.step (unhide HW) hb)
    clear ho' hb QC
    go_wp2
    refine bodyPost_ret (v := .tuple #[.slice (some ⟨w1.heap.size, 0, none⟩) L.length L.length, .int .i64 0, .int .i64 1]) (by simp [results, Try.results6, go_sem]) rfl ⟨_, _, _, by rw [unhide E, (unhide E0).2], by rw [(unhide E0).1]; exact ownR_copy (unhide HO) hws hsL, unhide HW⟩
  | true =>
  rw [hw] at A1 A2 A3 A0
  clear hw
  by_cases h40 : 40 < P.length
  · have h40i : (40 : Int) < P.length := by omega
    have hd : decide (P.length ≤ 40) = false := by simp; omega
    rw [hd] at A1
    have E := hide (unhide A1 rfl)
    have E0 := hide (unhide AN 1 (unhide E) (by decide))
    clear A1 A2 A3 A0 AN AD
    go_wp2_with fail
    refine (unhide QC _ ((unhide HRL).below (unhide HW))).mono ?_
    rintro e wz ⟨rfl, ho', hb⟩
    have HO := hide ho'
    have hws := (unhide HW).size
    replace HW := hide (Below.step (unhide HW) hb)
    clear ho' hb QC
    go_wp2
    refine bodyPost_ret (v := .tuple #[.slice (some ⟨w1.heap.size, 0, none⟩) L.length L.length, .int .i64 0, .int .i64 1]) (by simp [results, Try.results6, go_sem]) rfl ⟨_, _, _, by rw [unhide E, (unhide E0).2], by rw [(unhide E0).1]; exact ownR_copy (unhide HO) hws hsL, unhide HW⟩
  have h40i : ¬ (40 : Int) < P.length := by omega
  have hl40 : P.length ≤ 40 := by omega
  have hd : decide (P.length ≤ 40) = true := by simp; omega
  rw [hd] at A1 A2 A3 A0
  clear hd h40
  go_wp2_with fail
  refine (unhide QP _).mono ?_
  rintro e w2 ⟨rfl, rfl⟩
  clear QP
  cases hp : inB p 0 19 with
  | false =>
    rw [hp] at A1
    have E := hide (unhide A1 rfl)
    have E0 := hide (unhide AN 1 (unhide E) (by decide))
    clear A1 A2 A3 A0 AN AD
    go_wp2_with fail
    refine (unhide QC _ ((unhide HRL).below (unhide HW))).mono ?_
    rintro e wz ⟨rfl, ho', hb⟩
    have HO := hide ho'
    have hws := (unhide HW).size
    replace HW := hide (Below.step (unhide HW) hb)
    clear ho' hb QC
    go_wp2
    refine bodyPost_ret (v := .tuple #[.slice (some ⟨w2.heap.size, 0, none⟩) L.length L.length, .int .i64 0, .int .i64 1]) (by simp [results, Try.results6, go_sem]) rfl ⟨_, _, _, by rw [unhide E, (unhide E0).2], by rw [(unhide E0).1]; exact ownR_copy (unhide HO) hws hsL, unhide HW⟩
  | true =>
  rw [hp] at A2 A3 A0
  replace A2 := hide (unhide A2 rfl)
  replace A3 := hide (unhide A3 rfl)
  replace A0 := hide (unhide A0 rfl)
  clear hp
  go_wp2_with fail
  refine (unhide QU _ ((unhide HRL).below (unhide HW))).mono ?_
  rintro e w3 ⟨rfl, hb⟩
  replace HW := hide (Below.step (unhide HW) hb)
  clear hb QU
  cases hu : hereB L p with
  | false =>
    rw [hu] at A2
    have E := hide (unhide A2 rfl)
    have E0 := hide (unhide AN 2 (unhide E) (by decide))
    clear A1 A2 A3 A0 AN AD
    go_wp2_with fail
    refine (unhide QC _ ((unhide HRL).below (unhide HW))).mono ?_
    rintro e wz ⟨rfl, ho', hb⟩
    have HO := hide ho'
    have hws := (unhide HW).size
    replace HW := hide (Below.step (unhide HW) hb)
    clear ho' hb QC
    go_wp2
    refine bodyPost_ret (v := .tuple #[.slice (some ⟨w3.heap.size, 0, none⟩) L.length L.length, .int .i64 0, .int .i64 2]) (by simp [results, Try.results6, go_sem]) rfl ⟨_, _, _, by rw [unhide E, (unhide E0).2], by rw [(unhide E0).1]; exact ownR_copy (unhide HO) hws hsL, unhide HW⟩
  | true =>
  rw [hu] at A2 A3 A0
  clear hu
  go_wp2_with fail
  refine (unhide QL _ ((unhide HRP).below (unhide HW))).mono ?_
  rintro e w4 ⟨rfl, hb⟩
  replace HW := hide (Below.step (unhide HW) hb)
  clear hb QL
  cases hu : planB P p with
  | false =>
    rw [hu] at A2
    have E := hide (unhide A2 rfl)
    have E0 := hide (unhide AN 2 (unhide E) (by decide))
    clear A1 A2 A3 A0 AN AD
    go_wp2_with fail
    refine (unhide QC _ ((unhide HRL).below (unhide HW))).mono ?_
    rintro e wz ⟨rfl, ho', hb⟩
    have HO := hide ho'
    have hws := (unhide HW).size
    replace HW := hide (Below.step (unhide HW) hb)
    clear ho' hb QC
    go_wp2
    refine bodyPost_ret (v := .tuple #[.slice (some ⟨w4.heap.size, 0, none⟩) L.length L.length, .int .i64 0, .int .i64 2]) (by simp [results, Try.results6, go_sem]) rfl ⟨_, _, _, by rw [unhide E, (unhide E0).2], by rw [(unhide E0).1]; exact ownR_copy (unhide HO) hws hsL, unhide HW⟩
  | true =>
  rw [hu] at A3 A0
  replace A3 := hide (unhide A3 rfl)
  replace A0 := hide (unhide A0 rfl)
  clear hu A1 A2
  go_wp2_with fail
  refine (unhide QS _ ((unhide HRL).below (unhide HW))).mono ?_
  rintro e w5 ⟨ra, ma, ca, rfl, hrow, hma, hb⟩
  have hB4 := (unhide HW).size
  replace HW := hide (Below.step (unhide HW) hb)
  have HROW := hide (RowB.mono hrow hB4)
  have hws5 := (unhide HW).size
  have HRP5 := hide ((unhide HRP).below (unhide HW))
  clear hb QS hrow
  go_wp2_with (at_builtin; go_must (refine wpList_appAll tyStow _ rfl _ _ rfl w.heap.size ra ma ca (stayL L p) rfl (unhide HROW) hws5 (by omega) po P.length pcap P rfl (unhide HRP5) (by omega) ?_); intro ao6 cap6 w6 hL hK; have HL6 := hide hL; have HW6 := hide (onRow_below (unhide HW) (unhide HROW) (by decide) hws5 hK); clear hL hK)
  refine (unhide QX _ _ ((unhide HRH).below (unhide HW6)) ((unhide HL6).recs (by decide))).mono ?_
  rintro e w7 ⟨rfl, hb⟩
  replace HW := hide (Below.step (unhide HW6) hb)
  replace HL6 := hide ((unhide HL6).below hb)
  clear hb QX HW6 HROW HRP5 hws5
  cases hx : wellB H (stayL L p ++ P) with
  | false =>
    have E := hide (unhide A3 hx)
    have E0 := hide (unhide AN 3 (unhide E) (by decide))
    clear A3 A0 AN AD
    go_wp2_with fail
    refine (unhide QC _ ((unhide HRL).below (unhide HW))).mono ?_
    rintro e wz ⟨rfl, ho', hb⟩
    have HO := hide ho'
    have hws := (unhide HW).size
    replace HW := hide (Below.step (unhide HW) hb)
    clear ho' hb QC
    go_wp2
    refine bodyPost_ret (v := .tuple #[.slice (some ⟨w7.heap.size, 0, none⟩) L.length L.length, .int .i64 0, .int .i64 3]) (by simp [results, Try.results6, go_sem]) rfl ⟨_, _, _, by rw [unhide E, (unhide E0).2], by rw [(unhide E0).1]; exact ownR_copy (unhide HO) hws hsL, unhide HW⟩
  | true =>
  have E := hide (unhide A0 hx)
  have E0 := hide (unhide AD (unhide E))
  clear A3 A0 AN AD hx
  go_wp2_with fail
  refine (unhide QH _ ((unhide HRL).below (unhide HW))).mono ?_
  rintro e w8 ⟨a8, n8, c8, rfl, hs8, hb⟩
  replace HW := hide (Below.step (unhide HW) hb)
  replace HL6 := hide ((unhide HL6).below hb)
  have hn8 : (shV L p).length = n8 := hs8.intsIn.len.1
  have HN8 := hide hn8
  clear hb QH hs8 hn8
  go_wp2
  refine bodyPost_ret (v := .tuple #[.slice ao6 (ma + P.length) cap6, .int .i64 (n8 : Int), .int .i64 0]) (by simp [results, Try.results6, go_sem]) rfl ⟨_, _, _, by rw [unhide E, (unhide E0).2, unhide HN8], by rw [(unhide E0).1]; exact (unhide HL6).own (by decide), unhide HW⟩

end Go.Proofs.Ytnfdokcpjcnknaa

/- FnVoyage, walked from its draw on. Written by wip/mkfvo.py. -/
namespace Go.Proofs.Ytnfdokcpjcnknaa
open Go.RowKit

/-- What a draw for a voyage answers: lists that can be read. -/
def VoyAns (w : World) (e : Ending) (w' : World) : Prop := ∃ a1 m1 c1 H a2 m2 c2 L p a3 m3 c3 P, e = .returned (.tuple #[.slice a1 m1 c1, .slice a2 m2 c2, .int .i64 p, .slice a3 m3 c3]) ∧ RHatch w' (.slice a1 m1 c1) H ∧ RStow w' (.slice a2 m2 c2) L ∧ L.length ≤ 1048576 ∧ RStow w' (.slice a3 m3 c3) P ∧ P.length ≤ 1048576 ∧ Below w.heap.size w w'

set_option maxRecDepth 100000 in
set_option maxHeartbeats 16000000 in
theorem lawFnVoyage_of (hDr : ∀ (v : Value) (n : Nat) (w : World), BytesIn w.heap.size w v n → n ≤ 1048576 → Calls Try.prog 5 #[v] w fun e w' => VoyAns w e w') (v : Value) (n : Nat) (w : World) (h : BytesIn w.heap.size w v n) :
    Calls Try.prog 3 #[v] w fun e w' => e = .returned (.bool true) ∧ Below w.heap.size w w' := by
  have HD := hide hDr
  have HV := hide h
  clear hDr
  obtain ⟨ao, cap, rfl, h1, h2, -⟩ := h
  unfold maxLen at h2
  by_cases hbig : 1048576 < (n : Int)
  · go_enter Try.func3, Try.ntmps3
    go_wp2_with (go_at_call 4; refine (big_any _ _ _ _).mono ?_; rintro e w' ⟨rfl, rfl⟩)
    go_ret
    exact ⟨rfl, Below.refl _ _⟩
  have hn : n ≤ 1048576 := by omega
  have QD := hide (unhide HD _ n w (unhide HV) hn)
  clear HD HV
  go_enter Try.func3, Try.ntmps3
  go_wp2_with (first | (go_at_call 4; refine (big_any _ _ _ _).mono ?_; rintro e w' ⟨rfl, rfl⟩))
  refine (unhide QD).mono ?_
  rintro e w1 hA
  obtain ⟨a1, m1, c1, H, a2, m2, c2, L, p, a3, m3, c3, P, rfl, hH, hL, hLl, hP, hPl, hb⟩ := hA
  have em2 : m2 = L.length := by
    obtain ⟨_, _, e, _⟩ := hL
    simp only [Value.slice.injEq] at e
    exact e.2.1
  subst em2
  have em3 : m3 = P.length := by
    obtain ⟨_, _, e, _⟩ := hP
    simp only [Value.slice.injEq] at e
    exact e.2.1
  subst em3
  have HW := hide hb
  have HZ := hide (Below.refl w1.heap.size w1)
  have HLR := hide hL
  have QA := hide fun W (hW : Below w1.heap.size w1 W) => implAtPort_any _ _ _ H L p P W (hH.below hW) (hL.below hW) hLl (hP.below hW)
  have QI := hide fun W (hW : Below w1.heap.size w1 W) => implStowCode_any _ _ H L W (hH.below hW) (hL.below hW)
  have QS := hide fun W (hW : Below w1.heap.size w1 W) => specStowCode_any _ _ H L W (hH.below hW) (hL.below hW)
  have QO := hide fun W v M (hW : Below w1.heap.size w1 W) (hv : RStow W v M) => implStowCode_any _ v H M W (hH.below hW) hv
  have QH := hide fun W (hW : Below w1.heap.size w1 W) => implShifts_any _ L p W (hL.below hW)
  clear hb QD hH hL hP
  go_wp2_with fail
  refine (unhide QA _ (unhide HZ)).mono ?_
  rintro e w2 ⟨ra, rn, rc, rfl, hr, hb⟩
  replace HZ := hide (Below.step (unhide HZ) hb)
  have HR := hide hr
  clear hb hr QA
  generalize hs : stowC H L = sc at QI QS
  obtain ⟨s1, s2⟩ := sc
  dsimp only at QI QS
  clear hs
  have hss : (s1 != s1) = false := by simp
  go_wp2_with fail
  refine (unhide QI _ (unhide HZ)).mono ?_
  rintro e w3 ⟨rfl, hb⟩
  replace HZ := hide (Below.step (unhide HZ) hb)
  replace HR := hide ((unhide HR).below hb)
  clear hb QI
  go_wp2_with fail
  refine (unhide QS _ (unhide HZ)).mono ?_
  rintro e w4 ⟨rfl, hb⟩
  replace HZ := hide (Below.step (unhide HZ) hb)
  replace HR := hide ((unhide HR).below hb)
  clear hb QS
  have hrn : rn = (apV0 H L p P).length := by
    obtain ⟨_, _, e, _⟩ := unhide HR
    simp only [Value.slice.injEq] at e
    exact e.2.1
  by_cases hC : apC H L p P = 0
  case neg =>
    obtain ⟨e0, e1⟩ := ap_not rfl hC
    rw [e0] at hrn
    rw [e1]
    generalize apC H L p P = C at *
    have hc : (C != 0) = true := bne_iff_ne.2 hC
    subst hrn
    have HWF := hide (Below.step (unhide HW) (unhide HZ))
    clear HR hC e0 e1 HW HZ QO QH HLR
    go_wp2
    go_ret
    exact ⟨rfl, unhide HWF⟩
  obtain ⟨e0, e1⟩ := ap_done hC
  obtain ⟨hw1, hP40, hpp, -, -, hw2⟩ := apC_parts hC
  have hOK := well_shOk hw1 hpp
  have HGET := hide fun j => shV_get hOK (j := j)
  have HOUT := hide fun i => voy_out hC (i := i)
  have hL40 := (wellB_iff.1 hw1).2.1
  have eW := stowC_well_snd hw2
  rw [e0] at HR hrn
  rw [e1, hC]
  rw [hOK] at QH
  have QO1 := hide fun W (hW : Below w4.heap.size w4 W) => unhide QO W _ _ (Below.step (unhide HZ) hW) ((unhide HR).intsIn.below hW)
  rw [eW] at QO1
  dsimp only at QO1
  have HLN : Hid ((stayL L p ++ P).length = (stayT L p L.length).length + P.length) := by show _ = _; rw [List.length_append]; rfl
  have hM : (stayL L p ++ P).length ≤ 80 := by have := stayT_len L p L.length; rw [unhide HLN]; omega
  generalize stayL L p ++ P = M at *
  subst hrn
  clear e0 e1 hw1 hw2 hpp hOK eW hC QO
  have HY := hide (Below.refl w4.heap.size w4)
  go_wp2_with fail
  refine (unhide QO1 _ (unhide HY)).mono ?_
  rintro e w5 ⟨rfl, hb⟩
  replace HZ := hide (Below.step (unhide HZ) hb)
  replace HR := hide ((unhide HR).below hb)
  clear hb QO1 HY
  go_wp2_with fail
  refine (unhide QH _ (unhide HZ)).mono ?_
  rintro e w6 ⟨sa, sn, sp, rfl, hS, hb⟩
  replace HZ := hide (Below.step (unhide HZ) hb)
  replace HR := hide ((unhide HR).below hb)
  have hsn : sn = (shV L p).length := by
    obtain ⟨_, _, e, _⟩ := hS.intsIn
    simp only [Value.slice.injEq] at e
    exact e.2.1
  subst hsn
  have HS := hide hS.intsIn
  clear hb hS QH
  have hnn : (((shV L p).length : Int) != ((shV L p).length : Int)) = false := by simp
  have hsl := shV_len L p
  have HWF := hide (Below.step (unhide HW) (unhide HZ))
  have HLR6 := hide ((unhide HLR).below (unhide HZ))
  have HRR := hide (unhide HR).intsIn
  clear HW HZ HLR HR
  generalize hSV : shV L p = SV at *
  clear hSV
  go_wp2
  clear hnn
  go_loopg [18, 19] L.length (fun g sv iv wr => ∃ k : Nat, k ≤ L.length ∧ g = L.length - k ∧ iv = .int .i64 k ∧ sv = .int .i64 (cntS L p k) ∧ Hid (Below w6.heap.size w6 wr))
  case atStart => exact ⟨0, Nat.zero_le _, rfl, rfl, rfl, Below.refl _ _⟩
  case round =>
    obtain ⟨k, hk, rfl, rfl, rfl, HB⟩ := hrel
    obtain ⟨hc0, hc1⟩ := cntS_bd L p k
    obtain ⟨ao2, cap2, e2, hl2, hm2, hcc⟩ := (unhide HLR6).below (unhide HB)
    simp only [Value.slice.injEq] at e2
    obtain ⟨rfl, -, rfl⟩ := e2
    by_cases hkn : k < L.length
    · obtain ⟨b, o, x0, x1, x2, x3, x4, x5, x6, x7, x8, rfl, d0, d1, d2, d3, d4, d5, d6, d7, d8, EX⟩ := recStowAt hcc hkn
      have hki : (k : Int) < L.length := by omega
      have ES := hide (cntS_succ L p k)
      have ET : Hid (toS (stO L k) = x5) := by show _ = _; unfold stO toS; rw [unhide EX]
      rw [unhide ET] at ES
      generalize cntS L p k = C at *
      clear hcc hl2 hm2 d0 d1 d2 d3 d4 d6 d7 d8 EX ET HLR6 HRR HS HGET HOUT
      by_cases hx : x5 = p
      · rw [if_pos hx, Int.add_zero] at ES
        have hd : (x5 != p) = false := by rw [hx]; simp
        clear hx
        go_wp2
        go_roundg (L.length - (k + 1))
        case measure => omega
        case rel => exact ⟨k + 1, by omega, rfl, by go_num, by rw [unhide ES], unhide HB⟩
      · rw [if_neg hx] at ES
        have hd : (x5 != p) = true := bne_iff_ne.2 hx
        clear hx
        go_wp2
        go_roundg (L.length - (k + 1))
        case measure => omega
        case rel => exact ⟨k + 1, by omega, rfl, by go_num, by rw [unhide ES], unhide HB⟩
    · have hki : ¬ (k : Int) < L.length := by omega
      have ek : cntS L p k = ((stayT L p L.length).length : Int) := by rw [show k = L.length by omega]; rfl
      rw [ek]
      replace HLR6 := hide ((unhide HLR6).below (unhide HB))
      replace HRR := hide ((unhide HRR).below (unhide HB))
      replace HS := hide ((unhide HS).below (unhide HB))
      replace HWF := hide (Below.step (unhide HWF) (unhide HB))
      obtain ⟨T, eT⟩ : ∃ T, T = (stayT L p L.length).length := ⟨_, rfl⟩
      rw [← eT] at HLN ⊢
      have hT : T ≤ 40 := by have := stayT_len L p L.length; omega
      clear hcc hl2 hm2 ek hc0 hc1 HB eT
      go_wp2
      generalize wr = w7 at *
      go_loopg [20] SV.length (fun g iv wr => ∃ j : Nat, j ≤ SV.length ∧ g = SV.length - j ∧ iv = .int .i64 j ∧ Hid (Below w7.heap.size w7 wr))
      case atStart => exact ⟨0, Nat.zero_le _, rfl, rfl, Below.refl _ _⟩
      case round =>
        obtain ⟨j, hj, rfl, rfl, HB⟩ := hrel
        by_cases hjn : j < SV.length
        · obtain ⟨i, ei, hi, hA⟩ := unhide HGET j hjn
          obtain ⟨sao, scp, e3, hsl1, hsm, hsc⟩ := (unhide HS).below (unhide HB)
          simp only [Value.slice.injEq] at e3
          obtain ⟨rfl, -, rfl⟩ := e3
          obtain ⟨sb, so, rfl, hsj⟩ := hsc j hjn
          rw [ei] at hsj
          obtain ⟨ao2, cap2, e2, hl2, hm2, hcc⟩ := (unhide HLR6).below (unhide HB)
          simp only [Value.slice.injEq] at e2
          obtain ⟨rfl, -, rfl⟩ := e2
          obtain ⟨b, o, y0, y1, y2, y3, y4, y5, y6, y7, y8, rfl, d0, d1, d2, d3, d4, d5, d6, d7, d8, EX⟩ := recStowAt hcc hi
          have hji : (j : Int) < SV.length := by omega
          have hii : (i : Int) < L.length := by omega
          have EY : Hid (stO L i = (y0, y1, y2, y3, y4, y5, y6, y7, y8)) := unhide EX
          have hA' : p < y5 ∧ iwB L p (y6, y7, y8) L.length = true := by
            rw [shA, unhide EY, Bool.and_eq_true, decide_eq_true_eq] at hA
            exact hA
          obtain ⟨hy5, hiw⟩ := hA'
          have HIW := hide hiw
          have hbx := Below.alloc1 wr (.cells #[.string y0, .int .i64 y1, .int .i64 y2, .bool y3, .int .i64 y4, .int .i64 y5, .int .i64 y6, .int .i64 y7, .int .i64 y8] 40)
          have HBX := hide (ownV_alloc wr #[.string y0, .int .i64 y1, .int .i64 y2, .bool y3, .int .i64 y4, .int .i64 y5, .int .i64 y6, .int .i64 y7, .int .i64 y8] 40)
          have HB1 := hide (Below.step (unhide HB) hbx)
          obtain ⟨gs, egs⟩ : ∃ z, z = wr.heap.size := ⟨_, rfl⟩
          rw [← egs] at HBX
          clear hsc hcc hsl1 hsm hl2 hm2 hA hiw EX EY ei hbx HB
          go_wp2
          rw [← egs]
          generalize hW8 : wr.alloc (.cells #[.string y0, .int .i64 y1, .int .i64 y2, .bool y3, .int .i64 y4, .int .i64 y5, .int .i64 y6, .int .i64 y7, .int .i64 y8] 40) = w8 at *
          clear hW8 egs d0 d1 d2 d3 d4 d5 d6 d7 d8 hsj
          go_loopg [22, 23] L.length (fun g ov iv wr => ∃ k : Nat, k ≤ L.length ∧ g = L.length - k ∧ iv = .int .i64 k ∧ ov = .bool (iwB L p (y6, y7, y8) k) ∧ Hid (Below w8.heap.size w8 wr))
          case atStart => exact ⟨0, Nat.zero_le _, rfl, rfl, by rw [iwB_zero], Below.refl _ _⟩
          case round =>
            obtain ⟨k, hk, rfl, rfl, rfl, HB⟩ := hrel
            have HBX2 := hide ((unhide HBX).step (unhide HB))
            have z5 := (unhide HBX2).cell (i := 5) rfl
            have z6 := (unhide HBX2).cell (i := 6) rfl
            have z7 := (unhide HBX2).cell (i := 7) rfl
            have z8 := (unhide HBX2).cell (i := 8) rfl
            by_cases hkn : k < L.length
            · obtain ⟨ao2, cap2, e2, hl2, hm2, hcc⟩ := (unhide HLR6).below (Below.step (unhide HB1) (unhide HB))
              simp only [Value.slice.injEq] at e2
              obtain ⟨e2a, -, rfl⟩ := e2
              obtain ⟨b', o', x0, x1, x2, x3, x4, x5, x6, x7, x8, e2b, d0, d1, d2, d3, d4, d5, d6, d7, d8, EX⟩ := recStowAt hcc hkn
              have e2c := e2a.trans e2b
              simp only [Option.some.injEq, Addr.mk.injEq, and_true] at e2c
              obtain ⟨rfl, rfl⟩ := e2c
              have hki : (k : Int) < L.length := by omega
              have EI := hide (iwB_succ L p (y6, y7, y8) k)
              have EO : Hid (onB L p (y6, y7, y8) k = decide (x5 = p ∧ y6 = x6 ∧ y7 = x7 ∧ x8 < y8)) := by show _ = _; unfold onB toS ssp stO; rw [unhide EX]
              rw [unhide EO] at EI
              have HB2 := hide (Below.step (unhide HB) (Below.alloc1 wr (.cells #[.string x0, .int .i64 x1, .int .i64 x2, .bool x3, .int .i64 x4, .int .i64 x5, .int .i64 x6, .int .i64 x7, .int .i64 x8] 40)))
              have q5 : (wr.alloc (.cells #[.string x0, .int .i64 x1, .int .i64 x2, .bool x3, .int .i64 x4, .int .i64 x5, .int .i64 x6, .int .i64 x7, .int .i64 x8] 40)).cell? ⟨gs, 5, none⟩ = some (.int .i64 y5) := ((Below.alloc1 wr (.cells #[.string x0, .int .i64 x1, .int .i64 x2, .bool x3, .int .i64 x4, .int .i64 x5, .int .i64 x6, .int .i64 x7, .int .i64 x8] 40)).cell (lt_of_cell z5)).trans z5
              have q6 : (wr.alloc (.cells #[.string x0, .int .i64 x1, .int .i64 x2, .bool x3, .int .i64 x4, .int .i64 x5, .int .i64 x6, .int .i64 x7, .int .i64 x8] 40)).cell? ⟨gs, 6, none⟩ = some (.int .i64 y6) := ((Below.alloc1 wr (.cells #[.string x0, .int .i64 x1, .int .i64 x2, .bool x3, .int .i64 x4, .int .i64 x5, .int .i64 x6, .int .i64 x7, .int .i64 x8] 40)).cell (lt_of_cell z6)).trans z6
              have q7 : (wr.alloc (.cells #[.string x0, .int .i64 x1, .int .i64 x2, .bool x3, .int .i64 x4, .int .i64 x5, .int .i64 x6, .int .i64 x7, .int .i64 x8] 40)).cell? ⟨gs, 7, none⟩ = some (.int .i64 y7) := ((Below.alloc1 wr (.cells #[.string x0, .int .i64 x1, .int .i64 x2, .bool x3, .int .i64 x4, .int .i64 x5, .int .i64 x6, .int .i64 x7, .int .i64 x8] 40)).cell (lt_of_cell z7)).trans z7
              have q8 : (wr.alloc (.cells #[.string x0, .int .i64 x1, .int .i64 x2, .bool x3, .int .i64 x4, .int .i64 x5, .int .i64 x6, .int .i64 x7, .int .i64 x8] 40)).cell? ⟨gs, 8, none⟩ = some (.int .i64 y8) := ((Below.alloc1 wr (.cells #[.string x0, .int .i64 x1, .int .i64 x2, .bool x3, .int .i64 x4, .int .i64 x5, .int .i64 x6, .int .i64 x7, .int .i64 x8] 40)).cell (lt_of_cell z8)).trans z8
              generalize iwB L p (y6, y7, y8) k = ob at *
              clear hcc hl2 hm2 EX EO e2a e2b HBX2 HBX HB z5 z6 z7 z8 HGET HOUT HLR6 HRR HS HIW
              cases ob with
              | true =>
                have hres : iwB L p (y6, y7, y8) (k + 1) = true := by rw [unhide EI]; simp [*]
                have HRES := hide hres
                clear hres EI
                go_wp2
                go_roundg (L.length - (k + 1))
                case measure => omega
                case rel => exact ⟨k + 1, by omega, rfl, by go_num, by rw [unhide HRES], unhide HB2⟩
              | false =>
              by_cases c5 : x5 = p
              case neg =>
                have g5 : (x5 == p) = false := by simpa using c5
                have hres : iwB L p (y6, y7, y8) (k + 1) = false := by rw [unhide EI]; simp [*]
                have HRES := hide hres
                clear hres EI
                go_wp2
                go_roundg (L.length - (k + 1))
                case measure => omega
                case rel => exact ⟨k + 1, by omega, rfl, by go_num, by rw [unhide HRES], unhide HB2⟩
              by_cases c6 : x6 = y6
              case neg =>
                have g5 : (x5 == p) = true := by simpa using c5
                have g6 : (x6 == y6) = false := by simpa using c6
                have c6' : ¬ y6 = x6 := fun e => c6 e.symm
                have hres : iwB L p (y6, y7, y8) (k + 1) = false := by rw [unhide EI]; simp [*]
                have HRES := hide hres
                clear hres EI c5
                go_wp2
                go_roundg (L.length - (k + 1))
                case measure => omega
                case rel => exact ⟨k + 1, by omega, rfl, by go_num, by rw [unhide HRES], unhide HB2⟩
              by_cases c7 : x7 = y7
              case neg =>
                have g5 : (x5 == p) = true := by simpa using c5
                have g6 : (x6 == y6) = true := by simpa using c6
                have g7 : (x7 == y7) = false := by simpa using c7
                have c7' : ¬ y7 = x7 := fun e => c7 e.symm
                have hres : iwB L p (y6, y7, y8) (k + 1) = false := by rw [unhide EI]; simp [*]
                have HRES := hide hres
                clear hres EI c5 c6
                go_wp2
                go_roundg (L.length - (k + 1))
                case measure => omega
                case rel => exact ⟨k + 1, by omega, rfl, by go_num, by rw [unhide HRES], unhide HB2⟩
              by_cases c8 : x8 < y8
              case neg =>
                have g5 : (x5 == p) = true := by simpa using c5
                have g6 : (x6 == y6) = true := by simpa using c6
                have g7 : (x7 == y7) = true := by simpa using c7
                have hres : iwB L p (y6, y7, y8) (k + 1) = false := by rw [unhide EI]; simp [*]
                have HRES := hide hres
                clear hres EI c5 c6 c7
                go_wp2
                go_roundg (L.length - (k + 1))
                case measure => omega
                case rel => exact ⟨k + 1, by omega, rfl, by go_num, by rw [unhide HRES], unhide HB2⟩
              have g5 : (x5 == p) = true := by simpa using c5
              have g6 : (x6 == y6) = true := by simpa using c6
              have g7 : (x7 == y7) = true := by simpa using c7
              have hres : iwB L p (y6, y7, y8) (k + 1) = true := by rw [unhide EI]; simp [*]
              have HRES := hide hres
              clear hres EI c5 c6 c7
              go_wp2
              go_roundg (L.length - (k + 1))
              case measure => omega
              case rel => exact ⟨k + 1, by omega, rfl, by go_num, by rw [unhide HRES], unhide HB2⟩
            · have hki : ¬ (k : Int) < L.length := by omega
              have eo : iwB L p (y6, y7, y8) k = true := by rw [show k = L.length by omega]; exact unhide HIW
              rw [eo]
              have HB3 := hide (Below.step (unhide HB1) (unhide HB))
              have hy : ¬ y5 ≤ p := by omega
              clear eo HGET HOUT HLR6 HRR HS HIW HBX2 HBX HB HB1
              go_wp2
              go_roundg (SV.length - (j + 1))
              case measure => omega
              case rel => exact ⟨j + 1, by omega, rfl, by go_num, unhide HB3⟩
        · have hji : ¬ (j : Int) < SV.length := by omega
          replace HRR := hide ((unhide HRR).below (unhide HB))
          replace HWF := hide (Below.step (unhide HWF) (unhide HB))
          clear HB HLR6 HS HGET
          go_wp2
          generalize wr = w9 at *
          go_loopg [25] M.length (fun g iv wr => ∃ k : Nat, k ≤ M.length ∧ g = M.length - k ∧ iv = .int .i64 k ∧ Hid (Below w9.heap.size w9 wr))
          case atStart => exact ⟨0, Nat.zero_le _, rfl, rfl, Below.refl _ _⟩
          case round =>
            obtain ⟨k, hk, rfl, rfl, HB⟩ := hrel
            by_cases hkn : k < M.length
            · obtain ⟨ao2, cap2, e2, hl2, hm2, hcc⟩ := (unhide HRR).below (unhide HB)
              simp only [Value.slice.injEq] at e2
              obtain ⟨rfl, -, rfl⟩ := e2
              obtain ⟨b, o, x0, x1, x2, x3, x4, x5, x6, x7, x8, rfl, d0, d1, d2, d3, d4, d5, d6, d7, d8, EX⟩ := recStowAt hcc hkn
              have hki : (k : Int) < M.length := by omega
              have hx : x5 ≠ p := by
                have := unhide HOUT k hkn
                unfold toS stO at this
                rw [unhide EX] at this
                exact this
              have hd : (x5 == p) = false := by simpa using hx
              clear hcc hl2 hm2 EX hx HOUT d0 d1 d2 d3 d4 d6 d7 d8
              go_wp2
              go_roundg (M.length - (k + 1))
              case measure => omega
              case rel => exact ⟨k + 1, by omega, rfl, by go_num, unhide HB⟩
            · have hki : ¬ (k : Int) < M.length := by omega
              have hfin : ((M.length : Int) == (T : Int) + (P.length : Int)) = true := by
                have := unhide HLN
                rw [beq_iff_eq]
                omega
              replace HWF := hide (Below.step (unhide HWF) (unhide HB))
              clear HOUT HRR HB
              go_wp2
              go_ret
              exact ⟨by first | rfl | (simp; omega), unhide HWF⟩

end Go.Proofs.Ytnfdokcpjcnknaa

/- Stowage: shifts in numbers; the program's Shifts. Written by wip/mksto2.py. -/
import Derived.Test.YtdkfleodgdpckaaStoE
import Derived.Test.YtdkfleodgdpckaaOwnInts
namespace Go.Proofs.Ytdkfleodgdpckaa
open Go.RowKit

/-- Stow k goes at port p and stands below the spot s. -/
def onB (L : List StowT) (p : Int) (s : I3) (k : Nat) : Bool := decide (toS (stO L k) = p ∧ s.1 = (ssp (stO L k)).1 ∧ s.2.1 = (ssp (stO L k)).2.1 ∧ (ssp (stO L k)).2.2 < s.2.2)
def iwB (L : List StowT) (p : Int) (s : I3) (n : Nat) : Bool := decide (∃ k, k < n ∧ onB L p s k = true)
/-- Stow i must be lifted at port p. -/
def shA (L : List StowT) (p : Int) (i : Nat) : Bool := decide (p < toS (stO L i)) && iwB L p (ssp (stO L i)) L.length
def shL (L : List StowT) (p : Int) : Nat → List Int
  | 0 => []
  | i + 1 => shL L p i ++ (if shA L p i = true then [(i : Int)] else [])
def twB (L : List StowT) : Bool := decide (∃ i, i < L.length ∧ hasB (L.take i) (ssp (stO L i)) = true)
def shOk (L : List StowT) (p : Int) : Bool := decide (L.length ≤ 40) && !twB L && inB p 0 19
def shV (L : List StowT) (p : Int) : List Int := if shOk L p = true then shL L p L.length else []
theorem shL_len (L : List StowT) (p : Int) : ∀ i, (shL L p i).length ≤ i
  | 0 => Nat.le_refl _
  | i + 1 => by
    have := shL_len L p i
    rw [shL, List.length_append]
    split <;> simp <;> omega
theorem shV_len (L : List StowT) (p : Int) : (shV L p).length ≤ 40 := by
  unfold shV
  split
  next h =>
    simp only [shOk, Bool.and_eq_true, decide_eq_true_eq] at h
    have := shL_len L p L.length
    omega
  next => simp
theorem iwB_hit {L : List StowT} {p : Int} {s : I3} {n k : Nat} (hk : k < n) (h : onB L p s k = true) : iwB L p s n = true := by
  simp only [iwB, decide_eq_true_eq]
  exact ⟨k, hk, h⟩
theorem iwB_none {L : List StowT} {p : Int} {s : I3} {n : Nat} (h : ∀ k, k < n → onB L p s k = false) : iwB L p s n = false := by
  simp only [iwB, decide_eq_false_iff_not]
  rintro ⟨k, hk, e⟩
  rw [h k hk] at e
  cases e
theorem iwB_step {L : List StowT} {p : Int} {s : I3} {n : Nat} : iwB L p s (n + 1) = (iwB L p s n || onB L p s n) := by
  rw [Bool.eq_iff_iff]
  simp only [iwB, decide_eq_true_eq, Bool.or_eq_true]
  constructor
  · rintro ⟨k, hk, h⟩
    by_cases e : k = n
    · rw [e] at h; exact Or.inr h
    · exact Or.inl ⟨k, by omega, h⟩
  · rintro (⟨k, hk, h⟩ | h)
    · exact ⟨k, by omega, h⟩
    · exact ⟨n, by omega, h⟩
theorem twB_hit {L : List StowT} {i : Nat} (hi : i < L.length) (h : hasB (L.take i) (ssp (stO L i)) = true) : twB L = true := by
  simp only [twB, decide_eq_true_eq]
  exact ⟨i, hi, h⟩
theorem twB_none {L : List StowT} (h : ∀ i, i < L.length → hasB (L.take i) (ssp (stO L i)) = false) : twB L = false := by
  simp only [twB, decide_eq_false_iff_not]
  rintro ⟨k, hk, e⟩
  rw [h k hk] at e
  cases e
theorem atV_self {L : List StowT} {i : Nat} (hi : i < L.length) : (atV L (ssp (stO L i)) = (i : Int) ∧ hasB (L.take i) (ssp (stO L i)) = false) ∨ (atV L (ssp (stO L i)) ≠ (i : Int) ∧ hasB (L.take i) (ssp (stO L i)) = true) := by
  rw [hasB_take (Nat.le_of_lt hi)]
  by_cases h : ∃ k, k < i ∧ ssp (stO L k) = ssp (stO L i)
  · refine Or.inr ⟨?_, by simp [h]⟩
    obtain ⟨k, hk, e⟩ := h
    obtain ⟨j, hj, ej, ev, hf⟩ := atV_has (L := L) (s := ssp (stO L i)) (hasB_hit (k := k) (by omega) e)
    rw [ev]
    intro e2
    have e3 : j = i := by omega
    exact hf k (by omega) e
  · refine Or.inl ⟨atV_hit hi rfl (fun r hr e => h ⟨r, hr, e⟩), by simp [h]⟩

/-- Numbers of the call's own, as records of one cell. -/
def e1 (x : Int) (_ : Nat) : Value := .int .i64 x
theorem recCells_ints (L : List Int) : recCells 1 e1 L = ints L := by
  apply List.ext_getElem?
  intro q
  by_cases h : q < L.length
  · rw [ints_get L h]
    simp only [recCells, Nat.mul_one, List.getElem?_map, List.getElem?_range h, Option.map_some, Nat.div_one]
    rfl
  · rw [List.getElem?_eq_none (by rw [recCells_length]; omega), List.getElem?_eq_none (by rw [ints_length]; omega)]
theorem Try.infoInt1 : (Try.prog.info? 3).map (fun i => (i.zero, i.size, i.bytes)) = some (some (.int .i64 0), 1, 8) := by kernel_rfl
theorem tyInt : RecTy 40 3 1 e1 := recTy_mk Try.underlying40 Try.infoInt1 rfl (by decide) (by decide) (fun x j hj => rfl)
theorem RowB.sl {B : Nat} {w : World} {ao : Option Addr} {m cap : Nat} {L : List Int} (h : RowB 3 1 e1 B w ao m cap L) : OwnSl B w (.slice ao m cap) L := by
  have hl := h.len (by decide)
  rcases h.parts (by decide) with ⟨rfl, rfl, rfl, rfl⟩ | ⟨g, rfl, hg, _, hc, hm, ho⟩
  · exact ⟨none, 0, rfl, Nat.le_refl _, Nat.zero_le _, fun h => absurd rfl h⟩
  · subst hl
    rw [recCells_ints] at ho
    exact ⟨_, cap, rfl, hc, hm, fun _ => ⟨g, rfl, hg, ho⟩⟩
theorem onRow_below {B : Nat} {w W w' : World} {ao : Option Addr} {m cap n : Nat} {T : TypeId} {α : Type} [Inhabited α] {enc : α → Nat → Value} {L : List α} (hW : Below B w W) (h : RowB T n enc B W ao m cap L) (hn : 0 < n) (hB : B ≤ W.heap.size) (hK : Kept (fun k => ao = some ⟨k, 0, none⟩) W w') : Below B w w' := by
  refine Below.trans hW (hK.below hB (fun q hq => ?_))
  rcases h.parts hn with ⟨e, _⟩ | ⟨g, e, hg, _⟩
  · rw [hq] at e; cases e
  · rw [hq] at e; simp only [Option.some.injEq, Addr.mk.injEq, and_true] at e; omega

set_option maxHeartbeats 1600000 in
theorem isOnTopOf_any (x y z x' y' z' : Int) (w : World) :
    Calls Try.prog 109 #[v3 (x, y, z), v3 (x', y', z')] w fun e w' => e = .returned (.bool (decide (x = x' ∧ y = y' ∧ z' < z))) ∧ Below w.heap.size w w' := by
  unfold v3
  have HW : Hid (Below w.heap.size w ((w.alloc (.cells #[.int .i64 x, .int .i64 y, .int .i64 z] 29)).alloc (.cells #[.int .i64 x', .int .i64 y', .int .i64 z'] 29))) := Below.step (Below.alloc1 _ _) (Below.alloc1 _ _)
  by_cases h1 : x = x'
  · have d1 : (x == x') = true := by simp [h1]
    have f1 : decide (x = x') = true := by simp [h1]
    by_cases h2 : y = y'
    · have d2 : (y == y') = true := by simp [h2]
      have f2 : decide (y = y') = true := by simp [h2]
      have E : Hid (decide (x = x' ∧ y = y' ∧ z' < z) = decide (z' < z)) := by show _ = _; simp [h1, h2]
      clear h1 h2
      go_enter Try.func109, Try.ntmps109
      go_wp2
      go_ret
      exact ⟨by rw [unhide E]; rfl, unhide HW⟩
    · have d2 : (y == y') = false := by simp [h2]
      have f2 : decide (y = y') = false := by simp [h2]
      have E : Hid (decide (x = x' ∧ y = y' ∧ z' < z) = false) := by show _ = _; simp [h2]
      clear h1 h2
      go_enter Try.func109, Try.ntmps109
      go_wp2
      go_ret
      exact ⟨by rw [unhide E]; rfl, unhide HW⟩
  · have d1 : (x == x') = false := by simp [h1]
    have f1 : decide (x = x') = false := by simp [h1]
    have E : Hid (decide (x = x' ∧ y = y' ∧ z' < z) = false) := by show _ = _; simp [h1]
    clear h1
    go_enter Try.func109, Try.ntmps109
    go_wp2
    go_ret
    exact ⟨by rw [unhide E]; rfl, unhide HW⟩

set_option maxRecDepth 10000 in
set_option maxHeartbeats 3200000 in
theorem isInTheWay_any (v : Value) (L : List StowT) (x y z p : Int) (w : World) (h : RStow w v L) :
    Calls Try.prog 72 #[v3 (x, y, z), v, .int .i64 p] w fun e w' => e = .returned (.bool (iwB L p (x, y, z) L.length)) ∧ Below w.heap.size w w' := by
  obtain ⟨ao, cap, rfl, hl, hm, hc⟩ := h
  unfold maxLen at hm
  have HC := hide hc
  clear hc
  unfold v3
  have HS0 := hide (ownV_alloc w #[.int .i64 x, .int .i64 y, .int .i64 z] 29)
  have HW0 := hide (Below.alloc1 w (.cells #[.int .i64 x, .int .i64 y, .int .i64 z] 29))
  have E1 : Hid ((∀ r, r < L.length → onB L p (x, y, z) r = false) → iwB L p (x, y, z) L.length = false) := iwB_none
  have E2 : Hid (∀ k, k < L.length → onB L p (x, y, z) k = true → iwB L p (x, y, z) L.length = true) := fun k => iwB_hit
  go_enter Try.func72, Try.ntmps72
  go_wp2
  go_loopg [11] L.length (fun g i wr => ∃ k : Nat, k ≤ L.length ∧ g = L.length - k ∧ i = .int .i64 k ∧ Hid (∀ r, r < k → onB L p (x, y, z) r = false) ∧ Hid (Below w.heap.size w wr) ∧ Hid (OwnV wr w.heap.size [.int .i64 x, .int .i64 y, .int .i64 z]))
  case atStart => exact ⟨0, Nat.zero_le _, rfl, rfl, fun r hr => by omega, unhide HW0, unhide HS0⟩
  case round =>
    obtain ⟨k, hk, rfl, rfl, HA, HW, HS⟩ := hrel
    clear HW0 HS0
    by_cases hkn : k < L.length
    · have HAk := hide (unhide E2 k hkn)
      obtain ⟨b, o, n0, wt, cl, co, fr, to, sx, sy, sz, rfl, hc0, hc1, hc2, hc3, hc4, hc5, hc6, hc7, hc8, EX⟩ := recStowAt (unhide HC) hkn
      have g0 := ((unhide HW).cell (lt_of_cell hc0)).trans hc0
      have g1 := ((unhide HW).cell (lt_of_cell hc1)).trans hc1
      have g2 := ((unhide HW).cell (lt_of_cell hc2)).trans hc2
      have g3 := ((unhide HW).cell (lt_of_cell hc3)).trans hc3
      have g4 := ((unhide HW).cell (lt_of_cell hc4)).trans hc4
      have g5 := ((unhide HW).cell (lt_of_cell hc5)).trans hc5
      have g6 := ((unhide HW).cell (lt_of_cell hc6)).trans hc6
      have g7 := ((unhide HW).cell (lt_of_cell hc7)).trans hc7
      have g8 := ((unhide HW).cell (lt_of_cell hc8)).trans hc8
      have ESP : Hid (ssp (stO L k) = (sx, sy, sz)) := by show _ = _; unfold stO; rw [unhide EX]; rfl
      have EBX : Hid (sbx (stO L k) = (n0, wt, cl, co, fr, to)) := by show _ = _; unfold stO; rw [unhide EX]; rfl
      clear hc0 hc1 hc2 hc3 hc4 hc5 hc6 hc7 hc8
      have EO : Hid (onB L p (x, y, z) k = decide (to = p ∧ x = sx ∧ y = sy ∧ sz < z)) := by show _ = _; unfold onB toS; rw [unhide ESP]; unfold stO; rw [unhide EX]
      have HA1 : Hid (onB L p (x, y, z) k = false → ∀ r, r < k + 1 → onB L p (x, y, z) r = false) := fun h r hr => by
        by_cases e : r = k
        · rw [e]; exact h
        · exact unhide HA r (by omega)
      rw [unhide EO] at HAk HA1
      have hA := Below.alloc1 wr (.cells #[.string n0, .int .i64 wt, .int .i64 cl, .bool co, .int .i64 fr, .int .i64 to, .int .i64 sx, .int .i64 sy, .int .i64 sz] 44)
      have HW1 := hide (Below.step (unhide HW) hA)
      have HS1 := hide ((unhide HS).step hA)
      have k0 := (unhide HS1).cell (i := 0) rfl
      have k1 := (unhide HS1).cell (i := 1) rfl
      have k2 := (unhide HS1).cell (i := 2) rfl
      have hki : (k : Int) < L.length := by omega
      clear EX EBX ESP hA HW HS EO HA
      by_cases ht : to = p
      · have d1 : (to == p) = true := by simp [ht]
        have f1 : decide (to = p) = true := by simp [ht]
        have QT := hide fun V => isOnTopOf_any x y z sx sy sz V
        unfold v3 at QT
        have ET : Hid (decide (to = p ∧ x = sx ∧ y = sy ∧ sz < z) = decide (x = sx ∧ y = sy ∧ sz < z)) := by show _ = _; simp [ht]
        rw [unhide ET] at HAk HA1
        clear ht ET
        generalize decide (x = sx ∧ y = sy ∧ sz < z) = r at *
        go_wp2_with fail
        refine (unhide QT _).mono ?_
        rintro e w2 ⟨rfl, hb⟩
        replace HW1 := hide (Below.step (unhide HW1) hb)
        replace HS1 := hide ((unhide HS1).step hb)
        clear hb QT k0 k1 k2
        cases r with
        | true =>
          have E := hide (unhide HAk rfl)
          clear HAk HA1 E1 E2
          go_wp2
          go_ret
          exact ⟨by rw [unhide E]; rfl, unhide HW1⟩
        | false =>
          replace HA1 := hide (unhide HA1 rfl)
          clear HAk
          go_wp2
          go_roundg (L.length - (k + 1))
          case measure => omega
          case rel => exact ⟨k + 1, by omega, rfl, by go_num, unhide HA1, unhide HW1, unhide HS1⟩
      · have d1 : (to == p) = false := by simp [ht]
        have f1 : decide (to = p) = false := by simp [ht]
        replace HA1 := hide (unhide HA1 (by simp [ht]))
        clear HAk ht
        go_wp2
        go_roundg (L.length - (k + 1))
        case measure => omega
        case rel => exact ⟨k + 1, by omega, rfl, by go_num, unhide HA1, unhide HW1, unhide HS1⟩
    · have hki : ¬ (k : Int) < L.length := by omega
      have hkk : k = L.length := by omega
      have E := hide (unhide E1 (by rw [← hkk]; exact unhide HA))
      clear hkk E1
      go_wp2
      go_ret
      exact ⟨by rw [unhide E]; rfl, unhide HW⟩

set_option maxRecDepth 10000 in
set_option maxHeartbeats 3200000 in
theorem hasSpotTwice_any (v : Value) (L : List StowT) (w : World) (h : RStow w v L) :
    Calls Try.prog 71 #[v] w fun e w' => e = .returned (.bool (twB L)) ∧ Below w.heap.size w w' := by
  have HR := hide h
  obtain ⟨ao, cap, rfl, hl, hm, hc⟩ := h
  unfold maxLen at hm
  have HC := hide hc
  clear hc
  have E1 : Hid ((∀ r, r < L.length → hasB (L.take r) (ssp (stO L r)) = false) → twB L = false) := twB_none
  have E2 : Hid (∀ k, k < L.length → hasB (L.take k) (ssp (stO L k)) = true → twB L = true) := fun k => twB_hit
  go_enter Try.func71, Try.ntmps71
  go_wp2
  go_loopg [7] L.length (fun g i wr => ∃ k : Nat, k ≤ L.length ∧ g = L.length - k ∧ i = .int .i64 k ∧ Hid (∀ r, r < k → hasB (L.take r) (ssp (stO L r)) = false) ∧ Hid (Below w.heap.size w wr))
  case atStart => exact ⟨0, Nat.zero_le _, rfl, rfl, fun r hr => by omega, Below.refl _ _⟩
  case round =>
    obtain ⟨k, hk, rfl, rfl, HA, HW⟩ := hrel
    by_cases hkn : k < L.length
    · have HAk := hide (unhide E2 k hkn)
      obtain ⟨b, o, n0, wt, cl, co, fr, to, sx, sy, sz, rfl, hc0, hc1, hc2, hc3, hc4, hc5, hc6, hc7, hc8, EX⟩ := recStowAt (unhide HC) hkn
      have g0 := ((unhide HW).cell (lt_of_cell hc0)).trans hc0
      have g1 := ((unhide HW).cell (lt_of_cell hc1)).trans hc1
      have g2 := ((unhide HW).cell (lt_of_cell hc2)).trans hc2
      have g3 := ((unhide HW).cell (lt_of_cell hc3)).trans hc3
      have g4 := ((unhide HW).cell (lt_of_cell hc4)).trans hc4
      have g5 := ((unhide HW).cell (lt_of_cell hc5)).trans hc5
      have g6 := ((unhide HW).cell (lt_of_cell hc6)).trans hc6
      have g7 := ((unhide HW).cell (lt_of_cell hc7)).trans hc7
      have g8 := ((unhide HW).cell (lt_of_cell hc8)).trans hc8
      have ESP : Hid (ssp (stO L k) = (sx, sy, sz)) := by show _ = _; unfold stO; rw [unhide EX]; rfl
      have EBX : Hid (sbx (stO L k) = (n0, wt, cl, co, fr, to)) := by show _ = _; unfold stO; rw [unhide EX]; rfl
      clear hc0 hc1 hc2 hc3 hc4 hc5 hc6 hc7 hc8
      have HA1 : Hid (hasB (L.take k) (ssp (stO L k)) = false → ∀ r, r < k + 1 → hasB (L.take r) (ssp (stO L r)) = false) := fun h r hr => by
        by_cases e : r = k
        · rw [e]; exact h
        · exact unhide HA r (by omega)
      rw [unhide ESP] at HAk HA1
      obtain ⟨V1, eV⟩ : ∃ V, V = wr.alloc (.cells #[.string n0, .int .i64 wt, .int .i64 cl, .bool co, .int .i64 fr, .int .i64 to, .int .i64 sx, .int .i64 sy, .int .i64 sz] 44) := ⟨_, rfl⟩
      have hA : Below wr.heap.size wr V1 := by rw [eV]; exact Below.alloc1 _ _
      have HX : Hid (OwnV V1 wr.heap.size [.string n0, .int .i64 wt, .int .i64 cl, .bool co, .int .i64 fr, .int .i64 to, .int .i64 sx, .int .i64 sy, .int .i64 sz]) := by show OwnV _ _ _; rw [eV]; exact ownV_alloc wr #[.string n0, .int .i64 wt, .int .i64 cl, .bool co, .int .i64 fr, .int .i64 to, .int .i64 sx, .int .i64 sy, .int .i64 sz] 44
      have HW1 := hide (Below.step (unhide HW) hA)
      have c6 := (unhide HX).cell (i := 6) rfl
      have c7 := (unhide HX).cell (i := 7) rfl
      have c8 := (unhide HX).cell (i := 8) rfl
      have r6 := fun X : Gr V1 => gr_cell c6 X
      have r7 := fun X : Gr V1 => gr_cell c7 X
      have r8 := fun X : Gr V1 => gr_cell c8 X
      have HRT := hide (recs_take (unhide HR) (Nat.le_of_lt hkn))
      have ST := hide fun X : Gr V1 => isTaken_any _ (L.take k) sx sy sz X.val (((unhide HRT).below (unhide HW1)).below X.ok)
      unfold v3 at ST
      have hki : (k : Int) < L.length := by omega
      have hkc : k ≤ cap := by omega
      have hkci : (k : Int) ≤ cap := by omega
      have gsome := gr_some V1
      clear EX EBX ESP hA HW HA HRT
      generalize hasB (L.take k) (sx, sy, sz) = r at *
      go_wp2
      rw [← eV]
      clear eV
      refine wp_region_grown (by kernel_rfl) (by kernel_rfl) ?_
      repeat (go_big_quiet_step (fail))
      go_big_quiet_want
      go_big_quiet_op
      go_big_quiet_call (exact calls_grown (unhide ST _))
      repeat (go_big_quiet_step (fail))
      refine wpQuiet_nil ?_
      intro w1 hw1
      obtain ⟨zq, hz⟩ := hw1
      have hb : Below V1.heap.size V1 w1 := hz ▸ zq.ok
      clear hz gsome

      replace HW1 := hide (Below.step (unhide HW1) hb)
      clear hb ST HX r6 r7 r8 c6 c7 c8
      cases r with
      | true =>
        have E := hide (unhide HAk rfl)
        clear HAk HA1 E1 E2
        go_wp2
        go_ret
        exact ⟨by rw [unhide E]; rfl, unhide HW1⟩
      | false =>
        replace HA1 := hide (unhide HA1 rfl)
        clear HAk
        go_wp2
        go_roundg (L.length - (k + 1))
        case measure => omega
        case rel => exact ⟨k + 1, by omega, rfl, by go_num, unhide HA1, unhide HW1⟩
    · have hki : ¬ (k : Int) < L.length := by omega
      have hkk : k = L.length := by omega
      have E := hide (unhide E1 (by rw [← hkk]; exact unhide HA))
      clear hkk E1
      go_wp2
      go_ret
      exact ⟨by rw [unhide E]; rfl, unhide HW⟩

theorem isBoxPort_any (p : Int) (w : World) : Calls Try.prog 62 #[.int .i64 p] w fun e w' => e = .returned (.bool (inB p 0 19)) ∧ w' = w := by
  have HW := hide fun V => within_any p 0 19 V
  generalize inB p 0 19 = r at *
  go_enter Try.func62, Try.ntmps62
  go_wp2_with fail
  refine (unhide HW _).mono ?_
  rintro e w1 ⟨rfl, rfl⟩
  go_wp2
  go_ret
  exact ⟨rfl, rfl⟩

/-- What is told where shifts are not told. -/
theorem shV_not {L : List StowT} {p : Int} (h : shOk L p = false) : shV L p = [] := by rw [shV, if_neg (by rw [h]; decide)]
theorem shV_ok {L : List StowT} {p : Int} (h : shOk L p = true) : shV L p = shL L p L.length := by rw [shV, if_pos h]

set_option maxRecDepth 10000 in
set_option maxHeartbeats 6400000 in
theorem implShifts_any (v : Value) (L : List StowT) (p : Int) (w : World) (h : RStow w v L) :
    Calls Try.prog 20 #[v, .int .i64 p] w fun e w' => ∃ a n cp, e = .returned (.tuple #[.slice a n cp, .bool (shOk L p)]) ∧ OwnSl w.heap.size w' (.slice a n cp) (shV L p) ∧ Below w.heap.size w w' := by
  have HR := hide h
  obtain ⟨ao, cap, rfl, hl, hm, hc⟩ := h
  unfold maxLen at hm
  have HC := hide hc
  clear hc
  have ENo : Hid (shOk L p = false → shV L p = []) := shV_not
  have EOk : Hid (shOk L p = true → shV L p = shL L p L.length) := shV_ok
  have ES : Hid (shOk L p = (decide (L.length ≤ 40) && !twB L && inB p 0 19)) := rfl
  have HNl : Hid (∀ W, OwnSl w.heap.size W (.slice none 0 0) []) := fun W => (rowB_nil 3 1 e1 w.heap.size W).sl
  have QT := hide fun V (hV : RStow V (.slice ao L.length cap) L) => hasSpotTwice_any _ L V hV
  have QP := hide fun V => isBoxPort_any p V
  go_enter Try.func20, Try.ntmps20
  by_cases h40 : 40 < L.length
  · have h40i : (40 : Int) < L.length := by omega
    have E : Hid (shOk L p = false) := by show _ = _; rw [unhide ES]; simp; omega
    have E2 := hide (unhide ENo (unhide E))
    go_wp2
    refine bodyPost_ret (v := .tuple #[.slice none 0 0, .bool false]) (by simp [results, Try.results20, go_sem]) rfl ⟨none, 0, 0, by rw [unhide E], by rw [unhide E2]; exact unhide HNl _, Below.refl _ _⟩
  have h40i : ¬ (40 : Int) < L.length := by omega
  have hl40 : L.length ≤ 40 := by omega
  go_wp2_with fail
  refine (unhide QT _ (unhide HR)).mono ?_
  rintro e w1 ⟨rfl, hb⟩
  have HW := hide hb
  clear hb QT
  cases htw : twB L with
  | true =>
    have E : Hid (shOk L p = false) := by show _ = _; rw [unhide ES, htw]; simp
    have E2 := hide (unhide ENo (unhide E))
    clear htw
    go_wp2
    refine bodyPost_ret (v := .tuple #[.slice none 0 0, .bool false]) (by simp [results, Try.results20, go_sem]) rfl ⟨none, 0, 0, by rw [unhide E], by rw [unhide E2]; exact unhide HNl _, unhide HW⟩
  | false =>
  rw [htw] at ES
  go_wp2_with fail
  refine (unhide QP _).mono ?_
  rintro e w2 ⟨rfl, rfl⟩
  clear QP htw
  cases hp : inB p 0 19 with
  | false =>
    have E : Hid (shOk L p = false) := by show _ = _; rw [unhide ES, hp]; simp
    have E2 := hide (unhide ENo (unhide E))
    clear hp
    go_wp2
    refine bodyPost_ret (v := .tuple #[.slice none 0 0, .bool false]) (by simp [results, Try.results20, go_sem]) rfl ⟨none, 0, 0, by rw [unhide E], by rw [unhide E2]; exact unhide HNl _, unhide HW⟩
  | true =>
  have E : Hid (shOk L p = true) := by show _ = _; rw [unhide ES, hp]; simp; omega
  have E2 := hide (unhide EOk (unhide E))
  clear hp ENo EOk ES
  have HN := hide (rowB_nil 3 1 e1 w.heap.size w2)
  go_wp2
  go_loopg [6, 23] L.length (fun g ov kv wr => ∃ (k m c : Nat) (ro : Option Addr), k ≤ L.length ∧ g = L.length - k ∧ kv = .int .i64 k ∧ ov = .slice ro m c ∧ m ≤ k ∧ Hid (RowB 3 1 e1 w.heap.size wr ro m c (shL L p k)) ∧ Hid (Below w.heap.size w wr))
  case atStart => exact ⟨0, 0, 0, none, Nat.zero_le _, rfl, rfl, rfl, Nat.le_refl _, unhide HN, unhide HW⟩
  case round =>
    clear HN HW
    obtain ⟨k, m, c, ro, hk, rfl, rfl, rfl, hmk, HL, HW⟩ := hrel
    by_cases hkn : k < L.length
    · have EH : Hid (shA L p k = true → shL L p (k + 1) = shL L p k ++ [(k : Int)]) := fun h => by rw [shL, if_pos h]
      have EM : Hid (shA L p k = false → shL L p (k + 1) = shL L p k) := fun h => by rw [shL, if_neg (by rw [h]; decide), List.append_nil]
      obtain ⟨b, o, n0, wt, cl, co, fr, to, sx, sy, sz, rfl, hc0, hc1, hc2, hc3, hc4, hc5, hc6, hc7, hc8, EX⟩ := recStowAt (unhide HC) hkn
      have g0 := ((unhide HW).cell (lt_of_cell hc0)).trans hc0
      have g1 := ((unhide HW).cell (lt_of_cell hc1)).trans hc1
      have g2 := ((unhide HW).cell (lt_of_cell hc2)).trans hc2
      have g3 := ((unhide HW).cell (lt_of_cell hc3)).trans hc3
      have g4 := ((unhide HW).cell (lt_of_cell hc4)).trans hc4
      have g5 := ((unhide HW).cell (lt_of_cell hc5)).trans hc5
      have g6 := ((unhide HW).cell (lt_of_cell hc6)).trans hc6
      have g7 := ((unhide HW).cell (lt_of_cell hc7)).trans hc7
      have g8 := ((unhide HW).cell (lt_of_cell hc8)).trans hc8
      have ESP : Hid (ssp (stO L k) = (sx, sy, sz)) := by show _ = _; unfold stO; rw [unhide EX]; rfl
      have EBX : Hid (sbx (stO L k) = (n0, wt, cl, co, fr, to)) := by show _ = _; unfold stO; rw [unhide EX]; rfl
      clear hc0 hc1 hc2 hc3 hc4 hc5 hc6 hc7 hc8
      have ETO : Hid (toS (stO L k) = to) := by show _ = _; unfold toS stO; rw [unhide EX]
      have EA : Hid (shA L p k = (decide (p < to) && iwB L p (sx, sy, sz) L.length)) := by show _ = _; unfold shA; rw [unhide ETO, unhide ESP]
      rw [unhide EA] at EH EM
      have hA := Below.alloc1 wr (.cells #[.string n0, .int .i64 wt, .int .i64 cl, .bool co, .int .i64 fr, .int .i64 to, .int .i64 sx, .int .i64 sy, .int .i64 sz] 44)
      have HW1 := hide (Below.step (unhide HW) hA)
      have HL1 := hide ((unhide HL).below hA)
      have hki : (k : Int) < L.length := by omega
      clear EX EBX ESP hA HW HL EA ETO
      by_cases ht : p < to
      · have f1 : decide (p < to) = true := by simp [ht]
        rw [f1] at EH EM
        have QI := hide fun V (hV : RStow V (.slice (some ⟨b, o, none⟩) L.length cap) L) => isInTheWay_any _ L sx sy sz p V hV
        unfold v3 at QI
        generalize iwB L p (sx, sy, sz) L.length = r at *
        go_wp2_with fail
        refine (unhide QI _ ((unhide HR).below (unhide HW1))).mono ?_
        rintro e w3 ⟨rfl, hb⟩
        replace HW1 := hide (Below.step (unhide HW1) hb)
        replace HL1 := hide ((unhide HL1).below hb)
        clear hb QI
        cases r with
        | true =>
          replace EH := hide (unhide EH rfl)
          have hA2 := Below.alloc1 w3 (.cells #[.int .i64 (k : Int)] 3)
          have HG := hide (ownV_alloc w3 #[.int .i64 (k : Int)] 3)
          replace HW1 := hide (Below.step (unhide HW1) hA2)
          replace HL1 := hide ((unhide HL1).below hA2)
          have hws := (unhide HW1).size
          clear EM hA2
          go_wp2_with (at_builtin; go_must (refine wpList_appRow tyInt _ rfl _ _ rfl w.heap.size ro m c (shL L p k) rfl (unhide HL1) hws (by omega) w3.heap.size (k : Int) 1 rfl (unhide HG) ?_); intro g' cap' w4 hL hK hBg hat; have HL2 := hide hL; have HK := hide hK; clear hL hK hat)
          go_roundg (L.length - (k + 1))
          case measure => omega
          case rel =>
            refine ⟨k + 1, m + 1, cap', _, by omega, rfl, by go_num, rfl, by omega, ?_, onRow_below (unhide HW1) (unhide HL1) (by decide) hws (unhide HK)⟩
            rw [unhide EH]
            exact unhide HL2
        | false =>
          replace EM := hide (unhide EM rfl)
          clear EH
          go_wp2
          go_roundg (L.length - (k + 1))
          case measure => omega
          case rel => exact ⟨k + 1, m, c, ro, by omega, rfl, by go_num, rfl, by omega, by rw [unhide EM]; exact unhide HL1, unhide HW1⟩
      · have f1 : decide (p < to) = false := by simp; omega
        rw [f1] at EM
        replace EM := hide (unhide EM rfl)
        clear EH
        go_wp2
        go_roundg (L.length - (k + 1))
        case measure => omega
        case rel => exact ⟨k + 1, m, c, ro, by omega, rfl, by go_num, rfl, by omega, by rw [unhide EM]; exact unhide HL1, unhide HW1⟩
    · have hki : ¬ (k : Int) < L.length := by omega
      have HL1 : Hid (OwnSl w.heap.size wr (.slice ro m c) (shV L p)) := by
        have h := (unhide HL).sl
        rw [show k = L.length by omega] at h
        rw [unhide E2]
        exact h
      clear HL
      go_wp2
      refine bodyPost_ret (v := .tuple #[.slice ro m c, .bool true]) (by simp [results, Try.results20, go_sem]) rfl ⟨ro, m, c, by rw [unhide E], unhide HL1, unhide HW⟩

end Go.Proofs.Ytdkfleodgdpckaa

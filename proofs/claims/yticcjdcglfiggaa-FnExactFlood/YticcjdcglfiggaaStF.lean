/- When rooms are right; contracts of the program's roomOk, meetsOneOf and RoomsOk. -/
import Derived.Test.YticcjdcglfiggaaRRoom
import Derived.Test.YticcjdcglfiggaaWalkH
import Derived.Test.YticcjdcglfiggaaExactKit
namespace Go.Proofs.Yticcjdcglfiggaa
open Go.RowKit

def roomB (n : Nat) (m : I3) : Bool := decide (0 ≤ m.1) && decide (m.1 ≤ m.2.1) && decide (m.2.1 < (n : Int)) && inB m.2.2 0 100
def meetB (m k : I3) : Bool := decide (m.1 ≤ k.2.1) && decide (k.1 ≤ m.2.1)
def roomAt (n : Nat) (L : List I3) (i : Nat) : Bool := roomB n (L.getD i default) && !((L.take i).any (meetB (L.getD i default)))
def roomsB (step rise : Int) (R : List (List Int)) (L : List I3) : Bool := hullOk step rise R && decide (L.length ≤ 8) && (List.range L.length).all (roomAt R.length L)

theorem RecsIn.take {α : Type} [Inhabited α] {n : Nat} {enc : α → Nat → Value} {w : World} {ao : Option Addr} {m cap i : Nat} {L : List α} (h : RecsIn n enc w (.slice ao m cap) L) (hi : i ≤ m) : RecsIn n enc w (.slice ao i cap) (L.take i) := by
  obtain ⟨ao', cap', e, h1, h2, h3⟩ := h
  simp only [Value.slice.injEq] at e
  obtain ⟨rfl, rfl, rfl⟩ := e
  have hl : (L.take i).length = i := by rw [List.length_take]; omega
  refine ⟨ao, cap, by rw [hl], by omega, h2, fun j hj => ?_⟩
  obtain ⟨b, o, eb, hc⟩ := h3 j (by omega)
  refine ⟨b, o, eb, fun q hq => ?_⟩
  rw [hc q hq]
  congr 2
  simp [List.getD, show j < i by omega]

theorem any_true {α : Type} {p : α → Bool} {xs : List α} {d : α} {i : Nat} (hi : i < xs.length) (h : p (xs.getD i d) = true) : xs.any p = true := by
  rw [List.any_eq_true]
  refine ⟨xs.getD i d, ?_, h⟩
  rw [getD_lt hi]
  exact List.getElem_mem _

theorem any_false {α : Type} {p : α → Bool} {xs : List α} {d : α} (h : ∀ i, i < xs.length → p (xs.getD i d) = false) : xs.any p = false := by
  rw [List.any_eq_false]
  intro x hx
  obtain ⟨i, hi, rfl⟩ := List.mem_iff_getElem.1 hx
  have := h i hi
  rw [getD_lt hi] at this
  simp [this]

set_option maxHeartbeats 800000 in
theorem roomOk_any (step rise : Int) (ao : Option Addr) (n cap : Nat) (x y z : Int) (w : World) (_hn : n ≤ 9223372036854775807) :
    Calls Try.prog 62 #[hullV step rise (.slice ao n cap), v3 (x, y, z)] w fun e w' => e = .returned (.bool (roomB n (x, y, z))) ∧ Below w.heap.size w w' := by
  unfold hullV v3
  have HB := hide (Below.step (Below.alloc1 w (.cells #[.int .i64 step, .int .i64 rise, .slice ao n cap] 26)) (Below.alloc1 _ (.cells #[.int .i64 x, .int .i64 y, .int .i64 z] 37)))
  have HF : Hid (roomB n (x, y, z) = (decide (0 ≤ x) && decide (x ≤ y) && decide (y < (n : Int)) && inB z 0 100)) := hide rfl
  cases h1 : decide (0 ≤ x)
  case false =>
    rw [h1] at HF
    go_enter Try.func62, Try.ntmps62
    go_wp2
    go_ret
    exact ⟨ret_bool (by rw [unhide HF]; rfl), unhide HB⟩
  cases h2 : decide (x ≤ y)
  case false =>
    rw [h1, h2] at HF
    go_enter Try.func62, Try.ntmps62
    go_wp2
    go_ret
    exact ⟨ret_bool (by rw [unhide HF]; rfl), unhide HB⟩
  cases h3 : decide (y < (n : Int))
  case false =>
    rw [h1, h2, h3] at HF
    go_enter Try.func62, Try.ntmps62
    go_wp2
    go_ret
    exact ⟨ret_bool (by rw [unhide HF]; rfl), unhide HB⟩
  rw [h1, h2, h3] at HF
  go_enter Try.func62, Try.ntmps62
  go_wp2_with (go_at_call 53; refine (within_any _ _ _ _).mono ?_; rintro e w' ⟨rfl, rfl⟩)
  go_ret
  exact ⟨ret_bool (by rw [unhide HF]; simp), unhide HB⟩

set_option maxHeartbeats 800000 in
theorem meetsOneOf_any (x y z : Int) (v : Value) (L : List I3) (w : World) (h : R3 w v L) :
    Calls Try.prog 63 #[v3 (x, y, z), v] w fun e w' => e = .returned (.bool (L.any (meetB (x, y, z)))) ∧ Below w.heap.size w w' := by
  unfold v3
  obtain ⟨ao, cap, rfl, hl, hm, hc⟩ := h
  unfold maxLen at hm
  have HC := hide hc
  clear hc
  have HB0 := hide (ownV_alloc w #[.int .i64 x, .int .i64 y, .int .i64 z] 37)
  go_enter Try.func63, Try.ntmps63
  go_wp2
  go_loopg [9] L.length (fun g i wr => (Below w.heap.size w wr ∧ OwnV wr w.heap.size [.int .i64 x, .int .i64 y, .int .i64 z]) ∧ ∃ k : Nat, k ≤ L.length ∧ g = L.length - k ∧ i = .int .i64 k ∧ Hid (∀ r, r < k → meetB (x, y, z) (L.getD r default) = false))
  case atStart => exact ⟨⟨Below.alloc1 _ _, unhide HB0⟩, 0, Nat.zero_le _, rfl, rfl, fun r hr => by omega⟩
  case round =>
    obtain ⟨⟨hW, hO⟩, k, hk, rfl, rfl, HD⟩ := hrel
    by_cases hkn : k < L.length
    · obtain ⟨b, o, x', y', z', rfl, hc0, hc1, hc2, EX⟩ := rec3At (unhide HC) hkn
      have g0 := wcell3 hc0 hW
      have g1 := wcell3 hc1 hW
      have g2 := wcell3 hc2 hW
      have c0 := OwnV.cell hO (i := 0) rfl
      have c1 := OwnV.cell hO (i := 1) rfl
      have hz := hO.lt
      have HW := hide (Below.step hW (Below.alloc1 wr (.cells #[.int .i64 x', .int .i64 y', .int .i64 z'] 37)))
      have HO := hide (OwnV.alloc hO (.cells #[.int .i64 x', .int .i64 y', .int .i64 z'] 37))
      have HF : Hid (meetB (x, y, z) (L.getD k default) = (decide (x ≤ y') && decide (x' ≤ y))) := by show _ = _; rw [unhide EX]; rfl
      clear hc0 hc1 hc2 hW hO EX HB0
      cases h1 : decide (x ≤ y')
      case false =>
        rw [h1] at HF
        go_wp2
        go_roundg (L.length - (k + 1))
        case measure => omega
        case rel => exact ⟨⟨unhide HW, unhide HO⟩, k + 1, by omega, rfl, by go_num, fun r hr => by
          by_cases e : r = k
          · subst e; rw [unhide HF]; rfl
          · exact HD.out r (by omega)⟩
      cases h2 : decide (x' ≤ y)
      case false =>
        rw [h1, h2] at HF
        go_wp2
        go_roundg (L.length - (k + 1))
        case measure => omega
        case rel => exact ⟨⟨unhide HW, unhide HO⟩, k + 1, by omega, rfl, by go_num, fun r hr => by
          by_cases e : r = k
          · subst e; rw [unhide HF]; rfl
          · exact HD.out r (by omega)⟩
      rw [h1, h2] at HF
      have HA : Hid (L.any (meetB (x, y, z)) = true) := any_true (d := default) hkn (by rw [unhide HF]; rfl)
      go_wp2
      go_ret
      exact ⟨ret_bool (unhide HA).symm, unhide HW⟩
    · have HA : Hid (L.any (meetB (x, y, z)) = false) := any_false (d := default) (fun r hr => HD.out r (by omega))
      go_wp2
      go_ret
      exact ⟨ret_bool (unhide HA).symm, hW⟩

theorem roomsB_long {step rise : Int} {R : List (List Int)} {L : List I3} (h : ¬ L.length ≤ 8) : roomsB step rise R L = false := by simp [roomsB, h]
theorem roomsB_hull {step rise : Int} {R : List (List Int)} {L : List I3} (h : hullOk step rise R = false) : roomsB step rise R L = false := by simp [roomsB, h]
theorem roomsB_not {step rise : Int} {R : List (List Int)} {L : List I3} {k : Nat} (hk : k < L.length) (h : roomAt R.length L k = false) : roomsB step rise R L = false := by
  have : (List.range L.length).all (roomAt R.length L) = false := by
    rw [List.all_eq_false]
    exact ⟨k, List.mem_range.2 hk, by simp [h]⟩
  rw [roomsB, this]; simp
theorem roomsB_mk {step rise : Int} {R : List (List Int)} {L : List I3} (h1 : hullOk step rise R = true) (h2 : L.length ≤ 8) (h : ∀ r, r < L.length → roomAt R.length L r = true) : roomsB step rise R L = true := by
  have : (List.range L.length).all (roomAt R.length L) = true := by
    rw [List.all_eq_true]
    exact fun x hx => h x (List.mem_range.1 hx)
  rw [roomsB, this, h1]; simp [h2]

set_option maxHeartbeats 1600000 in
theorem implRoomsOk_any (step rise : Int) (v : Value) (R : List (List Int)) (u : Value) (L : List I3) (w : World) (h : RowsIn w v R) (hL : R3 w u L) :
    Calls Try.prog 22 #[hullV step rise v, u] w fun e w' => e = .returned (.bool (roomsB step rise R L)) ∧ Below w.heap.size w w' := by
  have HV := hide h
  have HU := hide hL
  obtain ⟨ao, cap, rfl, hl, hm, hc⟩ := h
  obtain ⟨ao1, cap1, rfl, hl1, hm1, hc1⟩ := hL
  unfold maxLen at hm hm1
  have HC := hide hc1
  clear hc hc1
  unfold hullV
  have HW0 := hide (Below.alloc1 w (.cells #[.int .i64 step, .int .i64 rise, .slice ao R.length cap] 26))
  have HB0 := hide (ownV_alloc w #[.int .i64 step, .int .i64 rise, .slice ao R.length cap] 26)
  go_enter Try.func22, Try.ntmps22
  go_wp2_with fail
  refine (implHullOk_any step rise _ R _ ((unhide HV).below (unhide HW0))).mono ?_
  rintro e w1 ⟨rfl, hb⟩
  have HW1 := hide (Below.step (unhide HW0) hb)
  have HB1 := hide (OwnV.step (unhide HB0) hb)
  clear hb HW0 HB0
  cases hok : hullOk step rise R with
  | false =>
    have HF := hide (roomsB_hull (L := L) hok)
    clear hok
    go_wp2
    go_ret
    exact ⟨ret_bool (unhide HF).symm, unhide HW1⟩
  | true =>
  by_cases hlen : L.length ≤ 8
  case neg =>
    have HF := hide (roomsB_long (step := step) (rise := rise) (R := R) hlen)
    clear hok
    go_wp2
    go_ret
    exact ⟨ret_bool (unhide HF).symm, unhide HW1⟩
  have HK := hide hok
  clear hok
  go_wp2
  go_loopg [17] L.length (fun g i wr => (Below w.heap.size w wr ∧ OwnV wr w.heap.size [.int .i64 step, .int .i64 rise, .slice ao R.length cap]) ∧ ∃ k : Nat, k ≤ L.length ∧ g = L.length - k ∧ i = .int .i64 k ∧ Hid (∀ r, r < k → roomAt R.length L r = true))
  case atStart => exact ⟨⟨unhide HW1, unhide HB1⟩, 0, Nat.zero_le _, rfl, rfl, fun r hr => by omega⟩
  case round =>
    obtain ⟨⟨hW, hO⟩, k, hk, rfl, rfl, HD⟩ := hrel
    clear HW1 HB1
    by_cases hkn : k < L.length
    · obtain ⟨b, o, x, y, z, rfl, hc0, hc1, hc2, EX⟩ := rec3At (unhide HC) hkn
      obtain ⟨W2, eW2⟩ : ∃ W, W = wr.alloc (.cells #[.int .i64 x, .int .i64 y, .int .i64 z] 37) := ⟨_, rfl⟩
      have hA : Below wr.heap.size wr W2 := by rw [eW2]; exact Below.alloc1 _ _
      have hR2 : OwnV W2 wr.heap.size [.int .i64 x, .int .i64 y, .int .i64 z] := by rw [eW2]; exact ownV_alloc _ #[.int .i64 x, .int .i64 y, .int .i64 z] _
      have hO2 := OwnV.step hO hA
      have HW2 := hide (Below.step hW hA)
      have g0 := wcell3 hc0 hW
      have g1 := wcell3 hc1 hW
      have g2 := wcell3 hc2 hW
      have HF : Hid (roomAt R.length L k = (roomB R.length (x, y, z) && !((L.take k).any (meetB (x, y, z))))) := by show _ = _; rw [roomAt, unhide EX]
      have S1 := hide fun q : Gr W2 => roomOk_any step rise ao R.length cap x y z q.val (by omega)
      have S2 := hide fun q : Gr W2 => meetsOneOf_any x y z (.slice (some ⟨b, o, none⟩) k cap1) (L.take k) q.val ((((unhide HU).below (unhide HW2)).take hk).below q.ok)
      have r0 := fun q : Gr W2 => gr_cell (OwnV.cell hO2 (i := 0) rfl) q
      have r1 := fun q : Gr W2 => gr_cell (OwnV.cell hO2 (i := 1) rfl) q
      have r2 := fun q : Gr W2 => gr_cell (OwnV.cell hO2 (i := 2) rfl) q
      have r3 := fun q : Gr W2 => gr_cell (OwnV.cell hR2 (i := 0) rfl) q
      have r4 := fun q : Gr W2 => gr_cell (OwnV.cell hR2 (i := 1) rfl) q
      have r5 := fun q : Gr W2 => gr_cell (OwnV.cell hR2 (i := 2) rfl) q
      have gsome := gr_some W2
      have HO2 := hide hO2
      clear hc0 hc1 hc2 hW hO EX hA hR2 hO2
      go_wp2
      rw [← eW2]
      have EW := hide eW2
      clear eW2 g0 g1 g2
      cases h1 : roomB R.length (x, y, z) with
      | false =>
        rw [h1] at HF
        refine wp_region_grown (by kernel_rfl) (by kernel_rfl) ?_
        repeat (go_big_quiet_step (fail))
        go_big_quiet_want
        go_big_quiet_op
        go_big_quiet_call (exact calls_grown (unhide S1 _))
        repeat (go_big_quiet_step (fail))
        refine wpQuiet_nil ?_
        intro w3 hw3
        obtain ⟨q3, hq3⟩ := hw3
        have hb3 : Below W2.heap.size W2 w3 := hq3 ▸ q3.ok
        clear hq3 q3 r0 r1 r2 r3 r4 r5 S1 S2 gsome
        have HW3 := hide (Below.step (unhide HW2) hb3)
        have HO3 := hide (OwnV.step (unhide HO2) hb3)
        clear hb3 HW2 HO2
        have HA : Hid (roomsB step rise R L = false) := roomsB_not hkn (by rw [unhide HF]; simp)
        go_wp2
        go_ret
        exact ⟨ret_bool (unhide HA).symm, unhide HW3⟩
      | true =>
        rw [h1] at HF
        cases h2 : (L.take k).any (meetB (x, y, z)) with
        | true =>
          rw [h2] at HF
          refine wp_region_grown (by kernel_rfl) (by kernel_rfl) ?_
          repeat (go_big_quiet_step (fail))
          go_big_quiet_want
          go_big_quiet_op
          go_big_quiet_call (exact calls_grown (unhide S1 _))
          repeat (go_big_quiet_step (fail))
          go_big_quiet_want
          go_big_quiet_op
          go_big_quiet_call (exact calls_grown (unhide S2 _))
          repeat (go_big_quiet_step (fail))
          refine wpQuiet_nil ?_
          intro w3 hw3
          obtain ⟨q3, hq3⟩ := hw3
          have hb3 : Below W2.heap.size W2 w3 := hq3 ▸ q3.ok
          clear hq3 q3 r0 r1 r2 r3 r4 r5 S1 S2 gsome
          have HW3 := hide (Below.step (unhide HW2) hb3)
          have HO3 := hide (OwnV.step (unhide HO2) hb3)
          clear hb3 HW2 HO2
          have HA : Hid (roomsB step rise R L = false) := roomsB_not hkn (by rw [unhide HF]; simp)
          go_wp2
          go_ret
          exact ⟨ret_bool (unhide HA).symm, unhide HW3⟩
        | false =>
          rw [h2] at HF
          refine wp_region_grown (by kernel_rfl) (by kernel_rfl) ?_
          repeat (go_big_quiet_step (fail))
          go_big_quiet_want
          go_big_quiet_op
          go_big_quiet_call (exact calls_grown (unhide S1 _))
          repeat (go_big_quiet_step (fail))
          go_big_quiet_want
          go_big_quiet_op
          go_big_quiet_call (exact calls_grown (unhide S2 _))
          repeat (go_big_quiet_step (fail))
          refine wpQuiet_nil ?_
          intro w3 hw3
          obtain ⟨q3, hq3⟩ := hw3
          have hb3 : Below W2.heap.size W2 w3 := hq3 ▸ q3.ok
          clear hq3 q3 r0 r1 r2 r3 r4 r5 S1 S2 gsome
          have HW3 := hide (Below.step (unhide HW2) hb3)
          have HO3 := hide (OwnV.step (unhide HO2) hb3)
          clear hb3 HW2 HO2
          go_wp2
          go_roundg (L.length - (k + 1))
          case measure => omega
          case rel => exact ⟨⟨unhide HW3, unhide HO3⟩, k + 1, by omega, rfl, by go_num, fun r hr => by
            by_cases e : r = k
            · subst e; rw [unhide HF]; rfl
            · exact HD.out r (by omega)⟩
    · have HA : Hid (roomsB step rise R L = true) := roomsB_mk (unhide HK) hlen (fun r hr => HD.out r (by omega))
      go_wp2
      go_ret
      exact ⟨ret_bool (unhide HA).symm, hW⟩

end Go.Proofs.Yticcjdcglfiggaa

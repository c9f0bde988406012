/- Laid together out of: RRoom, StF, StG, StH, StHi, Grow, RowGrow, StHs, StHb. -/
import Derived.Test.YticcjdcglfiggaaPa
import Derived.Test.YticcjdcglfiggaaPb
import Derived.Test.YticcjdcglfiggaaPc
import Derived.Deep.RegionHeld3
import Derived.Deep.AppendLies

/- Contracts of the laws' own helpers over lists of Room (flat records): szRoomS, toRoom, toRoomS, eqRoom, eqRoomS. -/
namespace Go.Proofs.Yticcjdcglfiggaa
open Go.RowKit

set_option maxHeartbeats 400000 in
theorem szRoomS_any (v : Value) (L : List I3) (left : Int) (w : World) (h : R3 w v L) (h0 : 0 ≤ left) (h1 : left ≤ 1048576) :
    Calls Try.prog 31 #[v, .int .i64 left] w fun e w' => ∃ r, e = .returned (.int .i64 r) ∧ SizedL L.length r ∧ w = w' := by
  obtain ⟨ao, cap, rfl, hl, hm, hc⟩ := h
  clear hc
  unfold maxLen at hm
  generalize L.length = n at *
  by_cases hlt : left < n
  · go_enter Try.func31, Try.ntmps31
    go_wp2
    go_ret
    exact ⟨_, rfl, ⟨by omega, by omega, fun h => by omega⟩, rfl⟩
  · go_enter Try.func31, Try.ntmps31
    go_wp2
    go_ret
    exact ⟨_, rfl, ⟨by omega, by omega, fun h => by omega⟩, rfl⟩

theorem Try.infoRoom : (Try.prog.info? 37).map (fun i => (i.zero, i.size, i.bytes)) = some (some (v3 (0, 0, 0)), 3, 24) := by kernel_rfl

set_option maxHeartbeats 400000 in
theorem toRoom_any (x y z : Int) (w : World) :
    Calls Try.prog 78 #[v3 (x, y, z)] w fun e w' => e = .returned (v3 (x, y, z)) ∧ Below w.heap.size w w' := by
  unfold v3
  go_enter Try.func78, Try.ntmps78
  go_wp2
  refine bodyPost_ret (v := v3 (x, y, z)) (by simp [results, Try.results78, go_sem]) rfl ⟨rfl, ?_⟩
  exact (((Below.refl _ _).alloc (Nat.le_refl _) _).alloc (by simp) _).alloc (by simp; omega) _

set_option maxHeartbeats 400000 in
theorem toRoomS_any (v : Value) (L : List I3) (w : World) (h : R3 w v L) (hs : L.length ≤ 1048576) :
    Calls Try.prog 33 #[v] w fun e w' => ∃ g, e = .returned (.slice (some ⟨g, 0, none⟩) L.length L.length) ∧ w.heap.size ≤ g ∧ OwnV w' g (recCells 3 e3 L) ∧ Below w.heap.size w w' := by
  obtain ⟨ao, cap, rfl, hl, hm, hc⟩ := h
  clear hl hm
  have HC := hide hc
  clear hc
  have hmk := run_make_recs (P := Try.prog) 38 37 _ 3 24 Try.underlying38 Try.infoRoom .i64 .i64 L.length (by omega) (by omega)
  go_enter Try.func33, Try.ntmps33
  go_wp2
  clear hmk
  go_loopg [4] L.length (fun g i wr => ∃ k : Nat, k ≤ L.length ∧ g = L.length - k ∧ i = .int .i64 k ∧ FillC 3 e3 w wr L (k * 3))
  case atStart => exact ⟨0, Nat.zero_le _, rfl, rfl, by rw [Nat.zero_mul]; exact FillC.start w L _ _⟩
  case round =>
    obtain ⟨k, hk, rfl, rfl, hF⟩ := hrel
    by_cases hkn : k < L.length
    · obtain ⟨b, o, x, y, z, rfl, hc0, hc1, hc2, EX⟩ := rec3At (unhide HC) hkn
      have g0 := wcell3 hc0 hF.below
      have g1 := wcell3 hc1 hF.below
      have g2 := wcell3 hc2 hF.below
      have HF := hide hF
      clear hc0 hc1 hc2 hF
      go_wp2_with fail
      refine (toRoom_any x y z _).mono ?_
      rintro e w1 ⟨rfl, hb⟩
      have hF1 := (unhide HF).grow hb
      have hf := hF1.frozen
      obtain ⟨u0', hu0⟩ := hF1.cell (q := k * 3) (by omega)
      obtain ⟨u1', hu1⟩ := hF1.cell (q := k * 3 + 1) (by omega)
      obtain ⟨u2', hu2⟩ := hF1.cell (q := k * 3 + 2) (by omega)
      have HF1 := hide hF1
      clear hb HF hF1
      unfold v3
      go_wp2
      go_roundg (L.length - (k + 1))
      case measure => omega
      case rel =>
        refine ⟨k + 1, by omega, rfl, by go_num, ?_⟩
        have s0 := (unhide HF1).set (v := .int .i64 x) (by omega) (by rw [show (k * 3) / 3 = k by omega, show (k * 3) % 3 = 0 by omega, unhide EX]; rfl)
        have s1 := s0.set (v := .int .i64 y) (by omega) (by rw [show (k * 3 + 1) / 3 = k by omega, show (k * 3 + 1) % 3 = 1 by omega, unhide EX]; rfl)
        have s2 := s1.set (v := .int .i64 z) (by omega) (by rw [show (k * 3 + 2) / 3 = k by omega, show (k * 3 + 2) % 3 = 2 by omega, unhide EX]; rfl)
        rw [show (k + 1) * 3 = k * 3 + 3 by omega]
        exact s2
    · have hkk : k = L.length := by omega
      subst hkk
      go_wp2
      go_ret
      exact ⟨_, rfl, Nat.le_refl _, hF.done, hF.below⟩

set_option maxHeartbeats 400000 in
theorem eqRoom_any (x y z : Int) (w : World) :
    Calls Try.prog 79 #[v3 (x, y, z), v3 (x, y, z)] w fun e w' => e = .returned (.bool true) ∧ Below w.heap.size w w' := by
  unfold v3
  go_enter Try.func79, Try.ntmps79
  go_wp2
  go_ret
  exact ⟨rfl, ((Below.refl _ _).alloc (Nat.le_refl _) _).alloc (by simp) _⟩

set_option maxHeartbeats 400000 in
theorem eqRoomS_any (v v' : Value) (L : List I3) (w : World) (h : R3 w v L) (h' : R3 w v' L) :
    Calls Try.prog 34 #[v, v'] w fun e w' => e = .returned (.bool true) ∧ Below w.heap.size w w' := by
  obtain ⟨ao, cap, rfl, hl, hm, hc⟩ := h
  obtain ⟨ao', cap', rfl, _, _, hc'⟩ := h'
  unfold maxLen at hm
  have HC := hide hc
  have HC' := hide hc'
  clear hc hc'
  go_enter Try.func34, Try.ntmps34
  go_wp2
  go_loopg [5] L.length (fun g i wr => Below w.heap.size w wr ∧ ∃ k : Nat, k ≤ L.length ∧ g = L.length - k ∧ i = .int .i64 k)
  case atStart => exact ⟨Below.refl _ _, 0, Nat.zero_le _, rfl, rfl⟩
  case round =>
    obtain ⟨hW, k, hk, rfl, rfl⟩ := hrel
    by_cases hkn : k < L.length
    · obtain ⟨b, o, x, y, z, rfl, hc0, hc1, hc2, EX⟩ := rec3At (unhide HC) hkn
      obtain ⟨b', o', x', y', z', rfl, hd0, hd1, hd2, EX'⟩ := rec3At (unhide HC') hkn
      have eX := (unhide EX).symm.trans (unhide EX')
      simp only [Prod.mk.injEq] at eX
      obtain ⟨rfl, rfl, rfl⟩ := eX
      have r0 := fun x' : Gr wr => gr_cell (wcell3 hc0 hW) x'
      have r0' := fun x' : Gr wr => gr_cell (wcell3 hd0 hW) x'
      have r1 := fun x' : Gr wr => gr_cell (wcell3 hc1 hW) x'
      have r1' := fun x' : Gr wr => gr_cell (wcell3 hd1 hW) x'
      have r2 := fun x' : Gr wr => gr_cell (wcell3 hc2 hW) x'
      have r2' := fun x' : Gr wr => gr_cell (wcell3 hd2 hW) x'
      have S1 := hide fun x' : Gr wr => eqRoom_any x y z x'.val
      have HW := hide hW
      have gsome := gr_some wr
      clear hc0 hc1 hc2 hd0 hd1 hd2 hW
      go_wp2
      refine wp_region_grown (by kernel_rfl) (by kernel_rfl) ?_
      repeat (go_big_quiet_step (fail))
      go_big_quiet_want
      go_big_quiet_op
      go_big_quiet_call (exact calls_grown (unhide S1 _))
      repeat (go_big_quiet_step (fail))
      refine wpQuiet_nil ?_
      intro w1 hw1
      obtain ⟨z', hz⟩ := hw1
      have hb1 : Below wr.heap.size wr w1 := hz ▸ z'.ok
      clear hz gsome
      go_wp2
      go_roundg (L.length - (k + 1))
      case measure => omega
      case rel => exact ⟨Below.step (unhide HW) hb1, k + 1, by omega, rfl, by go_num⟩
    · go_wp2
      go_ret
      exact ⟨rfl, hW⟩

end Go.Proofs.Yticcjdcglfiggaa

/- When rooms are right; contracts of the program's roomOk, meetsOneOf and RoomsOk. -/
namespace Go.Proofs.Yticcjdcglfiggaa
open Go.RowKit

def roomB (n : Nat) (m : I3) : Bool := decide (0 ≤ m.1) && decide (m.1 ≤ m.2.1) && decide (m.2.1 < (n : Int)) && inB m.2.2 0 100
def meetB (m k : I3) : Bool := decide (m.1 ≤ k.2.1) && decide (k.1 ≤ m.2.1)
def roomAt (n : Nat) (L : List I3) (i : Nat) : Bool := roomB n (L.getD i default) && !((L.take i).any (meetB (L.getD i default)))
def roomsB (step rise : Int) (R : List (List Int)) (L : List I3) : Bool := hullOk step rise R && decide (L.length ≤ 8) && (List.range L.length).all (roomAt R.length L)

theorem RecsIn.take {α : Type} [Inhabited α] {n : Nat} {enc : α → Nat → Value} {w : World} {ao : Option Addr} {m cap i : Nat} {L : List α} (h : RecsIn n enc w (.slice ao m cap) L) (hi : i ≤ m) : RecsIn n enc w (.slice ao i cap) (L.take i) := by
  obtain ⟨ao', cap', e, h1, h2, h3⟩ := h
  simp only [Value.slice.injEq] at e
  obtain ⟨rfl, rfl, rfl⟩ := e
  have hl : (L.take i).length = i := by rw [List.length_take]; omega
  refine ⟨ao, cap, by rw [hl], by omega, h2, fun j hj => ?_⟩
  obtain ⟨b, o, eb, hc⟩ := h3 j (by omega)
  refine ⟨b, o, eb, fun q hq => ?_⟩
  rw [hc q hq]
  congr 2
  simp [List.getD, show j < i by omega]

theorem any_true {α : Type} {p : α → Bool} {xs : List α} {d : α} {i : Nat} (hi : i < xs.length) (h : p (xs.getD i d) = true) : xs.any p = true := by
  rw [List.any_eq_true]
  refine ⟨xs.getD i d, ?_, h⟩
  rw [getD_lt hi]
  exact List.getElem_mem _

theorem any_false {α : Type} {p : α → Bool} {xs : List α} {d : α} (h : ∀ i, i < xs.length → p (xs.getD i d) = false) : xs.any p = false := by
  rw [List.any_eq_false]
  intro x hx
  obtain ⟨i, hi, rfl⟩ := List.mem_iff_getElem.1 hx
  have := h i hi
  rw [getD_lt hi] at this
  simp [this]

set_option maxHeartbeats 800000 in
theorem roomOk_any (step rise : Int) (ao : Option Addr) (n cap : Nat) (x y z : Int) (w : World) (_hn : n ≤ 9223372036854775807) :
    Calls Try.prog 62 #[hullV step rise (.slice ao n cap), v3 (x, y, z)] w fun e w' => e = .returned (.bool (roomB n (x, y, z))) ∧ Below w.heap.size w w' := by
  unfold hullV v3
  have HB := hide (Below.step (Below.alloc1 w (.cells #[.int .i64 step, .int .i64 rise, .slice ao n cap] 26)) (Below.alloc1 _ (.cells #[.int .i64 x, .int .i64 y, .int .i64 z] 37)))
  have HF : Hid (roomB n (x, y, z) = (decide (0 ≤ x) && decide (x ≤ y) && decide (y < (n : Int)) && inB z 0 100)) := hide rfl
  cases h1 : decide (0 ≤ x)
  case false =>
    rw [h1] at HF
    go_enter Try.func62, Try.ntmps62
    go_wp2
    go_ret
    exact ⟨ret_bool (by rw [unhide HF]; rfl), unhide HB⟩
  cases h2 : decide (x ≤ y)
  case false =>
    rw [h1, h2] at HF
    go_enter Try.func62, Try.ntmps62
    go_wp2
    go_ret
    exact ⟨ret_bool (by rw [unhide HF]; rfl), unhide HB⟩
  cases h3 : decide (y < (n : Int))
  case false =>
    rw [h1, h2, h3] at HF
    go_enter Try.func62, Try.ntmps62
    go_wp2
    go_ret
    exact ⟨ret_bool (by rw [unhide HF]; rfl), unhide HB⟩
  rw [h1, h2, h3] at HF
  go_enter Try.func62, Try.ntmps62
  go_wp2_with (go_at_call 53; refine (within_any _ _ _ _).mono ?_; rintro e w' ⟨rfl, rfl⟩)
  go_ret
  exact ⟨ret_bool (by rw [unhide HF]; simp), unhide HB⟩

set_option maxHeartbeats 800000 in
theorem meetsOneOf_any (x y z : Int) (v : Value) (L : List I3) (w : World) (h : R3 w v L) :
    Calls Try.prog 63 #[v3 (x, y, z), v] w fun e w' => e = .returned (.bool (L.any (meetB (x, y, z)))) ∧ Below w.heap.size w w' := by
  unfold v3
  obtain ⟨ao, cap, rfl, hl, hm, hc⟩ := h
  unfold maxLen at hm
  have HC := hide hc
  clear hc
  have HB0 := hide (ownV_alloc w #[.int .i64 x, .int .i64 y, .int .i64 z] 37)
  go_enter Try.func63, Try.ntmps63
  go_wp2
  go_loopg [9] L.length (fun g i wr => (Below w.heap.size w wr ∧ OwnV wr w.heap.size [.int .i64 x, .int .i64 y, .int .i64 z]) ∧ ∃ k : Nat, k ≤ L.length ∧ g = L.length - k ∧ i = .int .i64 k ∧ Hid (∀ r, r < k → meetB (x, y, z) (L.getD r default) = false))
  case atStart => exact ⟨⟨Below.alloc1 _ _, unhide HB0⟩, 0, Nat.zero_le _, rfl, rfl, fun r hr => by omega⟩
  case round =>
    obtain ⟨⟨hW, hO⟩, k, hk, rfl, rfl, HD⟩ := hrel
    by_cases hkn : k < L.length
    · obtain ⟨b, o, x', y', z', rfl, hc0, hc1, hc2, EX⟩ := rec3At (unhide HC) hkn
      have g0 := wcell3 hc0 hW
      have g1 := wcell3 hc1 hW
      have g2 := wcell3 hc2 hW
      have c0 := OwnV.cell hO (i := 0) rfl
      have c1 := OwnV.cell hO (i := 1) rfl
      have hz := hO.lt
      have HW := hide (Below.step hW (Below.alloc1 wr (.cells #[.int .i64 x', .int .i64 y', .int .i64 z'] 37)))
      have HO := hide (OwnV.alloc hO (.cells #[.int .i64 x', .int .i64 y', .int .i64 z'] 37))
      have HF : Hid (meetB (x, y, z) (L.getD k default) = (decide (x ≤ y') && decide (x' ≤ y))) := by show _ = _; rw [unhide EX]; rfl
      clear hc0 hc1 hc2 hW hO EX HB0
      cases h1 : decide (x ≤ y')
      case false =>
        rw [h1] at HF
        go_wp2
        go_roundg (L.length - (k + 1))
        case measure => omega
        case rel => exact ⟨⟨unhide HW, unhide HO⟩, k + 1, by omega, rfl, by go_num, fun r hr => by
          by_cases e : r = k
          · subst e; rw [unhide HF]; rfl
          · exact HD.out r (by omega)⟩
      cases h2 : decide (x' ≤ y)
      case false =>
        rw [h1, h2] at HF
        go_wp2
        go_roundg (L.length - (k + 1))
        case measure => omega
        case rel => exact ⟨⟨unhide HW, unhide HO⟩, k + 1, by omega, rfl, by go_num, fun r hr => by
          by_cases e : r = k
          · subst e; rw [unhide HF]; rfl
          · exact HD.out r (by omega)⟩
      rw [h1, h2] at HF
      have HA : Hid (L.any (meetB (x, y, z)) = true) := any_true (d := default) hkn (by rw [unhide HF]; rfl)
      go_wp2
      go_ret
      exact ⟨ret_bool (unhide HA).symm, unhide HW⟩
    · have HA : Hid (L.any (meetB (x, y, z)) = false) := any_false (d := default) (fun r hr => HD.out r (by omega))
      go_wp2
      go_ret
      exact ⟨ret_bool (unhide HA).symm, hW⟩

theorem roomsB_long {step rise : Int} {R : List (List Int)} {L : List I3} (h : ¬ L.length ≤ 8) : roomsB step rise R L = false := by simp [roomsB, h]
theorem roomsB_hull {step rise : Int} {R : List (List Int)} {L : List I3} (h : hullOk step rise R = false) : roomsB step rise R L = false := by simp [roomsB, h]
theorem roomsB_not {step rise : Int} {R : List (List Int)} {L : List I3} {k : Nat} (hk : k < L.length) (h : roomAt R.length L k = false) : roomsB step rise R L = false := by
  have : (List.range L.length).all (roomAt R.length L) = false := by
    rw [List.all_eq_false]
    exact ⟨k, List.mem_range.2 hk, by simp [h]⟩
  rw [roomsB, this]; simp
theorem roomsB_mk {step rise : Int} {R : List (List Int)} {L : List I3} (h1 : hullOk step rise R = true) (h2 : L.length ≤ 8) (h : ∀ r, r < L.length → roomAt R.length L r = true) : roomsB step rise R L = true := by
  have : (List.range L.length).all (roomAt R.length L) = true := by
    rw [List.all_eq_true]
    exact fun x hx => h x (List.mem_range.1 hx)
  rw [roomsB, this, h1]; simp [h2]

set_option maxHeartbeats 1600000 in
theorem implRoomsOk_any (step rise : Int) (v : Value) (R : List (List Int)) (u : Value) (L : List I3) (w : World) (h : RowsIn w v R) (hL : R3 w u L) :
    Calls Try.prog 22 #[hullV step rise v, u] w fun e w' => e = .returned (.bool (roomsB step rise R L)) ∧ Below w.heap.size w w' := by
  have HV := hide h
  have HU := hide hL
  obtain ⟨ao, cap, rfl, hl, hm, hc⟩ := h
  obtain ⟨ao1, cap1, rfl, hl1, hm1, hc1⟩ := hL
  unfold maxLen at hm hm1
  have HC := hide hc1
  clear hc hc1
  unfold hullV
  have HW0 := hide (Below.alloc1 w (.cells #[.int .i64 step, .int .i64 rise, .slice ao R.length cap] 26))
  have HB0 := hide (ownV_alloc w #[.int .i64 step, .int .i64 rise, .slice ao R.length cap] 26)
  go_enter Try.func22, Try.ntmps22
  go_wp2_with fail
  refine (implHullOk_any step rise _ R _ ((unhide HV).below (unhide HW0))).mono ?_
  rintro e w1 ⟨rfl, hb⟩
  have HW1 := hide (Below.step (unhide HW0) hb)
  have HB1 := hide (OwnV.step (unhide HB0) hb)
  clear hb HW0 HB0
  cases hok : hullOk step rise R with
  | false =>
    have HF := hide (roomsB_hull (L := L) hok)
    clear hok
    go_wp2
    go_ret
    exact ⟨ret_bool (unhide HF).symm, unhide HW1⟩
  | true =>
  by_cases hlen : L.length ≤ 8
  case neg =>
    have HF := hide (roomsB_long (step := step) (rise := rise) (R := R) hlen)
    clear hok
    go_wp2
    go_ret
    exact ⟨ret_bool (unhide HF).symm, unhide HW1⟩
  have HK := hide hok
  clear hok
  go_wp2
  go_loopg [17] L.length (fun g i wr => (Below w.heap.size w wr ∧ OwnV wr w.heap.size [.int .i64 step, .int .i64 rise, .slice ao R.length cap]) ∧ ∃ k : Nat, k ≤ L.length ∧ g = L.length - k ∧ i = .int .i64 k ∧ Hid (∀ r, r < k → roomAt R.length L r = true))
  case atStart => exact ⟨⟨unhide HW1, unhide HB1⟩, 0, Nat.zero_le _, rfl, rfl, fun r hr => by omega⟩
  case round =>
    obtain ⟨⟨hW, hO⟩, k, hk, rfl, rfl, HD⟩ := hrel
    clear HW1 HB1
    by_cases hkn : k < L.length
    · obtain ⟨b, o, x, y, z, rfl, hc0, hc1, hc2, EX⟩ := rec3At (unhide HC) hkn
      obtain ⟨W2, eW2⟩ : ∃ W, W = wr.alloc (.cells #[.int .i64 x, .int .i64 y, .int .i64 z] 37) := ⟨_, rfl⟩
      have hA : Below wr.heap.size wr W2 := by rw [eW2]; exact Below.alloc1 _ _
      have hR2 : OwnV W2 wr.heap.size [.int .i64 x, .int .i64 y, .int .i64 z] := by rw [eW2]; exact ownV_alloc _ #[.int .i64 x, .int .i64 y, .int .i64 z] _
      have hO2 := OwnV.step hO hA
      have HW2 := hide (Below.step hW hA)
      have g0 := wcell3 hc0 hW
      have g1 := wcell3 hc1 hW
      have g2 := wcell3 hc2 hW
      have HF : Hid (roomAt R.length L k = (roomB R.length (x, y, z) && !((L.take k).any (meetB (x, y, z))))) := by show _ = _; rw [roomAt, unhide EX]
      have S1 := hide fun q : Gr W2 => roomOk_any step rise ao R.length cap x y z q.val (by omega)
      have S2 := hide fun q : Gr W2 => meetsOneOf_any x y z (.slice (some ⟨b, o, none⟩) k cap1) (L.take k) q.val ((((unhide HU).below (unhide HW2)).take hk).below q.ok)
      have r0 := fun q : Gr W2 => gr_cell (OwnV.cell hO2 (i := 0) rfl) q
      have r1 := fun q : Gr W2 => gr_cell (OwnV.cell hO2 (i := 1) rfl) q
      have r2 := fun q : Gr W2 => gr_cell (OwnV.cell hO2 (i := 2) rfl) q
      have r3 := fun q : Gr W2 => gr_cell (OwnV.cell hR2 (i := 0) rfl) q
      have r4 := fun q : Gr W2 => gr_cell (OwnV.cell hR2 (i := 1) rfl) q
      have r5 := fun q : Gr W2 => gr_cell (OwnV.cell hR2 (i := 2) rfl) q
      have gsome := gr_some W2
      have HO2 := hide hO2
      clear hc0 hc1 hc2 hW hO EX hA hR2 hO2
      go_wp2
      rw [← eW2]
      have EW := hide eW2
      clear eW2 g0 g1 g2
      cases h1 : roomB R.length (x, y, z) with
      | false =>
        rw [h1] at HF
        refine wp_region_grown (by kernel_rfl) (by kernel_rfl) ?_
        repeat (go_big_quiet_step (fail))
        go_big_quiet_want
        go_big_quiet_op
        go_big_quiet_call (exact calls_grown (unhide S1 _))
        repeat (go_big_quiet_step (fail))
        refine wpQuiet_nil ?_
        intro w3 hw3
        obtain ⟨q3, hq3⟩ := hw3
        have hb3 : Below W2.heap.size W2 w3 := hq3 ▸ q3.ok
        clear hq3 q3 r0 r1 r2 r3 r4 r5 S1 S2 gsome
        have HW3 := hide (Below.step (unhide HW2) hb3)
        have HO3 := hide (OwnV.step (unhide HO2) hb3)
        clear hb3 HW2 HO2
        have HA : Hid (roomsB step rise R L = false) := roomsB_not hkn (by rw [unhide HF]; simp)
        go_wp2
        go_ret
        exact ⟨ret_bool (unhide HA).symm, unhide HW3⟩
      | true =>
        rw [h1] at HF
        cases h2 : (L.take k).any (meetB (x, y, z)) with
        | true =>
          rw [h2] at HF
          refine wp_region_grown (by kernel_rfl) (by kernel_rfl) ?_
          repeat (go_big_quiet_step (fail))
          go_big_quiet_want
          go_big_quiet_op
          go_big_quiet_call (exact calls_grown (unhide S1 _))
          repeat (go_big_quiet_step (fail))
          go_big_quiet_want
          go_big_quiet_op
          go_big_quiet_call (exact calls_grown (unhide S2 _))
          repeat (go_big_quiet_step (fail))
          refine wpQuiet_nil ?_
          intro w3 hw3
          obtain ⟨q3, hq3⟩ := hw3
          have hb3 : Below W2.heap.size W2 w3 := hq3 ▸ q3.ok
          clear hq3 q3 r0 r1 r2 r3 r4 r5 S1 S2 gsome
          have HW3 := hide (Below.step (unhide HW2) hb3)
          have HO3 := hide (OwnV.step (unhide HO2) hb3)
          clear hb3 HW2 HO2
          have HA : Hid (roomsB step rise R L = false) := roomsB_not hkn (by rw [unhide HF]; simp)
          go_wp2
          go_ret
          exact ⟨ret_bool (unhide HA).symm, unhide HW3⟩
        | false =>
          rw [h2] at HF
          refine wp_region_grown (by kernel_rfl) (by kernel_rfl) ?_
          repeat (go_big_quiet_step (fail))
          go_big_quiet_want
          go_big_quiet_op
          go_big_quiet_call (exact calls_grown (unhide S1 _))
          repeat (go_big_quiet_step (fail))
          go_big_quiet_want
          go_big_quiet_op
          go_big_quiet_call (exact calls_grown (unhide S2 _))
          repeat (go_big_quiet_step (fail))
          refine wpQuiet_nil ?_
          intro w3 hw3
          obtain ⟨q3, hq3⟩ := hw3
          have hb3 : Below W2.heap.size W2 w3 := hq3 ▸ q3.ok
          clear hq3 q3 r0 r1 r2 r3 r4 r5 S1 S2 gsome
          have HW3 := hide (Below.step (unhide HW2) hb3)
          have HO3 := hide (OwnV.step (unhide HO2) hb3)
          clear hb3 HW2 HO2
          go_wp2
          go_roundg (L.length - (k + 1))
          case measure => omega
          case rel => exact ⟨⟨unhide HW3, unhide HO3⟩, k + 1, by omega, rfl, by go_num, fun r hr => by
            by_cases e : r = k
            · subst e; rw [unhide HF]; rfl
            · exact HD.out r (by omega)⟩
    · have HA : Hid (roomsB step rise R L = true) := roomsB_mk (unhide HK) hlen (fun r hr => HD.out r (by omega))
      go_wp2
      go_ret
      exact ⟨ret_bool (unhide HA).symm, hW⟩

end Go.Proofs.Yticcjdcglfiggaa

/- The contract of the specification's RoomsOk. -/
namespace Go.Proofs.Yticcjdcglfiggaa
open Go.RowKit

theorem roomB_eq (n : Nat) (x y z : Int) : roomB n (x, y, z) = (inB x 0 ((n : Int) - 1) && inB y x ((n : Int) - 1) && inB z 0 100) := by
  unfold roomB inB
  rw [Bool.eq_iff_iff]
  simp only [Bool.and_eq_true, decide_eq_true_eq]
  omega

set_option maxHeartbeats 1600000 in
theorem specRoomsOk_any (step rise : Int) (v : Value) (R : List (List Int)) (u : Value) (L : List I3) (w : World) (h : RowsIn w v R) (hL : R3 w u L) :
    Calls Try.prog 76 #[hullV step rise v, u] w fun e w' => e = .returned (.bool (roomsB step rise R L)) ∧ Below w.heap.size w w' := by
  have HV := hide h
  have HU := hide hL
  obtain ⟨ao, cap, rfl, hl, hm, hc⟩ := h
  obtain ⟨ao1, cap1, rfl, hl1, hm1, hc1⟩ := hL
  unfold maxLen at hm hm1
  have HC := hide hc1
  clear hc hc1
  unfold hullV
  have HW0 := hide (Below.alloc1 w (.cells #[.int .i64 step, .int .i64 rise, .slice ao R.length cap] 26))
  have HB0 := hide (ownV_alloc w #[.int .i64 step, .int .i64 rise, .slice ao R.length cap] 26)
  go_enter Try.func76, Try.ntmps76
  go_wp2_with fail
  refine (specHullOk_any step rise _ R _ ((unhide HV).below (unhide HW0))).mono ?_
  rintro e w1 ⟨rfl, hb⟩
  have HW1 := hide (Below.step (unhide HW0) hb)
  have HB1 := hide (OwnV.step (unhide HB0) hb)
  clear hb HW0 HB0
  cases hok : hullOk step rise R with
  | false =>
    have HF := hide (roomsB_hull (L := L) hok)
    clear hok
    go_wp2
    go_ret
    exact ⟨ret_bool (unhide HF).symm, unhide HW1⟩
  | true =>
  by_cases hlen : L.length ≤ 8
  case neg =>
    have HF := hide (roomsB_long (step := step) (rise := rise) (R := R) hlen)
    clear hok
    go_wp2
    go_ret
    exact ⟨ret_bool (unhide HF).symm, unhide HW1⟩
  have HK := hide hok
  have hR12 := (hullOk_right hok).len2
  have hR2 := (hullOk_right hok).len1
  clear hok
  go_wp2
  go_loopg [5] L.length (fun g i wr => (Below w.heap.size w wr ∧ OwnV wr w.heap.size [.int .i64 step, .int .i64 rise, .slice ao R.length cap]) ∧ ∃ k : Nat, k ≤ L.length ∧ g = L.length - k ∧ i = .int .i64 k ∧ Hid (∀ r, r < k → roomAt R.length L r = true))
  case atStart => exact ⟨⟨unhide HW1, unhide HB1⟩, 0, Nat.zero_le _, rfl, rfl, fun r hr => by omega⟩
  case round =>
    obtain ⟨⟨hW, hO⟩, k, hk, rfl, rfl, HD⟩ := hrel
    clear HW1 HB1
    by_cases hkn : k < L.length
    · obtain ⟨b, o, x, y, z, rfl, hc0, hc1, hc2, EX⟩ := rec3At (unhide HC) hkn
      have g0 := wcell3 hc0 hW
      have g1 := wcell3 hc1 hW
      have g2 := wcell3 hc2 hW
      have b2 := OwnV.cell hO (i := 2) rfl
      have hz := hO.lt
      have A2 := Below.alloc1 wr (.cells #[.int .i64 x, .int .i64 y, .int .i64 z] 37)
      have HR2 := hide (ownV_alloc wr #[.int .i64 x, .int .i64 y, .int .i64 z] 37)
      have HO2 := hide (OwnV.step hO A2)
      have HW2 := hide (Below.step hW A2)
      have HF : Hid (roomAt R.length L k = (roomB R.length (x, y, z) && !((L.take k).any (meetB (x, y, z))))) := by show _ = _; rw [roomAt, unhide EX]
      rw [roomB_eq] at HF
      clear hc0 hc1 hc2 hW hO EX A2
      by_cases hall : (inB x 0 ((R.length : Int) - 1) && inB y x ((R.length : Int) - 1) && inB z 0 100) = true
      · rw [hall] at HF
        simp only [Bool.and_eq_true] at hall
        obtain ⟨⟨h1, h2⟩, h3⟩ := hall
        go_wp2_with (go_at_call 77; refine (l1In_any _ _ _ _).mono ?_; rintro e w' ⟨rfl, rfl⟩)
        clear h1 h2 h3 g0 g1 g2 b2
        obtain ⟨W2, eW2⟩ : ∃ W, W = wr.alloc (.cells #[.int .i64 x, .int .i64 y, .int .i64 z] 37) := ⟨_, rfl⟩
        rw [← eW2] at HR2 HO2 HW2 ⊢
        clear eW2
        go_loopg [7] k (fun g i w3 => Below W2.heap.size W2 w3 ∧ ∃ j : Nat, j ≤ k ∧ g = k - j ∧ i = .int .i64 j ∧ Hid (∀ r, r < j → meetB (x, y, z) (L.getD r default) = false))
        case atStart => exact ⟨Below.refl _ _, 0, Nat.zero_le _, rfl, rfl, fun r hr => by omega⟩
        case round =>
          obtain ⟨hb, j, hj, rfl, rfl, HE⟩ := hrel
          by_cases hjk : j < k
          · obtain ⟨b', o', x', y', z', eb, hd0, hd1, _, EY⟩ := rec3At (unhide HC) (show j < L.length by omega)
            simp only [Option.some.injEq, Addr.mk.injEq, and_true] at eb
            obtain ⟨rfl, rfl⟩ := eb
            have g0 := wcell3 (wcell3 hd0 (unhide HW2)) hb
            have g1 := wcell3 (wcell3 hd1 (unhide HW2)) hb
            have c0 := wcell3 (OwnV.cell (unhide HR2) (i := 0) rfl) hb
            have c1 := wcell3 (OwnV.cell (unhide HR2) (i := 1) rfl) hb
            have HG : Hid (meetB (x, y, z) (L.getD j default) = (decide (x ≤ y') && decide (x' ≤ y))) := by show _ = _; rw [unhide EY]; rfl
            have HB := hide hb
            clear hd0 hd1 EY hb
            cases h1 : decide (x ≤ y')
            case false =>
              rw [h1] at HG
              go_wp2
              go_quiet (fail)
              go_wp2
              go_roundg (k - (j + 1))
              case measure => omega
              case rel => exact ⟨below_drewN (unhide HB) _, j + 1, by omega, rfl, by go_num, fun r hr => by
                by_cases e : r = j
                · subst e; rw [unhide HG]; rfl
                · exact HE.out r (by omega)⟩
            cases h2 : decide (x' ≤ y)
            case false =>
              rw [h1, h2] at HG
              go_wp2
              go_quiet (fail)
              go_wp2
              go_roundg (k - (j + 1))
              case measure => omega
              case rel => exact ⟨below_drewN (unhide HB) _, j + 1, by omega, rfl, by go_num, fun r hr => by
                by_cases e : r = j
                · subst e; rw [unhide HG]; rfl
                · exact HE.out r (by omega)⟩
            rw [h1, h2] at HG
            have HA : Hid (roomsB step rise R L = false) := roomsB_not hkn (by
              rw [unhide HF, any_true (d := default) (i := j) (by rw [List.length_take]; omega) (by
                rw [show (L.take k).getD j default = L.getD j default by simp [List.getD, hjk], unhide HG]; rfl)]; rfl)
            go_wp2
            go_quiet (fail)
            go_wp2
            go_ret
            exact ⟨ret_bool (unhide HA).symm, Below.step (unhide HW2) (below_drewN (unhide HB) _)⟩
          · have hjj : j = k := by omega
            subst hjj
            have HT : Hid (roomAt R.length L j = true) := by
              show _ = _
              rw [unhide HF, any_false (d := default) (fun r hr => by
                rw [List.length_take] at hr
                rw [show (L.take j).getD r default = L.getD r default by simp [List.getD, show r < j by omega]]
                exact HE.out r (by omega))]; rfl
            have HW4 := hide (Below.step (unhide HW2) hb)
            have HO4 := hide (OwnV.step (unhide HO2) hb)
            clear hb
            go_wp2
            go_roundg (L.length - (j + 1))
            case measure => omega
            case rel => exact ⟨⟨unhide HW4, unhide HO4⟩, j + 1, by omega, rfl, by go_num, fun r hr => by
              by_cases e : r = j
              · subst e; exact unhide HT
              · exact HD.out r (by omega)⟩
      · rw [show (inB x 0 ((R.length : Int) - 1) && inB y x ((R.length : Int) - 1) && inB z 0 100) = false by simpa using hall] at HF
        have HA : Hid (roomsB step rise R L = false) := roomsB_not hkn (by rw [unhide HF]; rfl)
        have HX : Hid ((inB x 0 ((R.length : Int) - 1) && inB y x ((R.length : Int) - 1) && inB z 0 100) = false) := hide (by simpa using hall)
        clear hall HD HF
        cases h1 : inB x 0 ((R.length : Int) - 1) <;> cases h2 : inB y x ((R.length : Int) - 1) <;> cases h3 : inB z 0 100
        all_goals rw [h1, h2, h3] at HX
        case true.true.true => exact absurd (unhide HX) (by simp)
        all_goals
          clear HX
          go_wp2_with (go_at_call 77; refine (l1In_any _ _ _ _).mono ?_; rintro e w' ⟨rfl, rfl⟩)
          go_ret
          exact ⟨ret_bool (unhide HA).symm, unhide HW2⟩
    · have HA : Hid (roomsB step rise R L = true) := roomsB_mk (unhide HK) hlen (fun r hr => HD.out r (by omega))
      go_wp2
      go_ret
      exact ⟨ret_bool (unhide HA).symm, hW⟩

end Go.Proofs.Yticcjdcglfiggaa

/- A holed hull as a plain function: what each station's half-breadths become; the contract of the program's letIn. -/
namespace Go.Proofs.Yticcjdcglfiggaa
open Go.RowKit

def dip (p x : Int) : Int := x * (100 - p) / 100
def dipRow (p : Int) (row : List Int) : List Int := row.map (dip p)

theorem dip_zero (x : Int) : dip 0 x = x := by unfold dip; omega
theorem dipRow_zero (row : List Int) : dipRow 0 row = row := by
  unfold dipRow
  rw [show dip 0 = id from funext dip_zero]; simp
theorem dipRow_len (p : Int) (row : List Int) : (dipRow p row).length = row.length := by simp [dipRow]

/-- How much water fills the room of the first k in which station s lies (the last of them). -/
def permTo (L : List I3) (s : Nat) : Nat → Int
  | 0 => 0
  | k + 1 => if inB s (L.getD k default).1 (L.getD k default).2.1 = true then (L.getD k default).2.2 else permTo L s k

/-- The rows, each let in by its own number. -/
def dips (R : List (List Int)) (P : Nat → Int) : List (List Int) := (List.range R.length).map fun s => dipRow (P s) (R.getD s [])

theorem dips_len (R : List (List Int)) (P : Nat → Int) : (dips R P).length = R.length := by simp [dips]
theorem dips_get (R : List (List Int)) (P : Nat → Int) {s : Nat} (h : s < R.length) : (dips R P).getD s [] = dipRow (P s) (R.getD s []) := by simp [dips, List.getD, h]
theorem dips_congr {R : List (List Int)} {P Q : Nat → Int} (h : ∀ s, s < R.length → P s = Q s) : dips R P = dips R Q := by
  unfold dips
  refine List.map_congr_left fun s hs => ?_
  rw [h s (List.mem_range.1 hs)]
theorem list_getD_map_range {α : Type} (R : List α) (d : α) : (List.range R.length).map (fun s => R.getD s d) = R := by
  refine List.ext_getElem (by simp) fun i h1 h2 => ?_
  simp at h1
  simp [List.getD, h1]
theorem dips_none (R : List (List Int)) : dips R (fun _ => 0) = R := by
  unfold dips
  simp only [dipRow_zero]
  exact list_getD_map_range R []

theorem dips_set {R : List (List Int)} {P : Nat → Int} {t : Nat} {p : Int} (ht : t < R.length) (hz : P t = 0) :
    (dips R P).set t (dipRow p ((dips R P).getD t [])) = dips R (fun s => if s = t then p else P s) := by
  rw [dips_get R P ht, hz, dipRow_zero]
  refine List.ext_getElem (by simp [dips]) fun i h1 h2 => ?_
  rw [dips_len] at h2
  rw [List.getElem_set]
  by_cases e : t = i
  · subst e; simp [dips]
  · simp [dips, e, show ¬ i = t by omega]

/-- One row of such a list is another one, of the same length. -/
theorem OwnRows.setRow {B : Nat} {w w' : World} {g s : Nat} {G C : Nat → Nat} {M : List (List Int)} {row : List Int} (h : OwnRows B w g G C M) (hs : s < M.length) (hk : Kept (fun b => b = G s) w w') (ho : OwnV w' (G s) (ints row)) (hl : row.length = (M.getD s []).length) :
    OwnRows B w' g G C (M.set s row) := by
  have gd : ∀ r, r < M.length → (M.set s row).getD r [] = if r = s then row else M.getD r [] := fun r hr => by
    by_cases e : r = s
    · subst e; simp [List.getD, hr]
    · rw [if_neg e]; simp [List.getD, show ¬ s = r by omega]
  have gl : ∀ r, r < M.length → ((M.set s row).getD r []).length = (M.getD r []).length := fun r hr => by
    rw [gd r hr]
    by_cases e : r = s
    · subst e; rw [if_pos rfl, hl]
    · rw [if_neg e]
  have et : tops G C (M.set s row) = tops G C M := by
    unfold tops
    rw [List.length_set]
    refine List.map_congr_left fun r hr => ?_
    rw [gl r (List.mem_range.1 hr)]
  have hne := (h.above s hs).2
  refine ⟨h.base, by rw [et]; exact h.top.kept hk (fun e => hne e.symm), fun r hr => ?_, fun r hr => ?_, fun r hr => ?_, fun r s' hr hs' => ?_⟩
  · rw [List.length_set] at hr
    rw [gd r hr]
    by_cases e : r = s
    · subst e; rw [if_pos rfl]; exact ho
    · rw [if_neg e]; exact (h.rows r hr).kept hk (h.apart r s hr hs e)
  · rw [List.length_set] at hr; rw [gl r hr]; exact h.caps r hr
  · rw [List.length_set] at hr; exact h.above r hr
  · rw [List.length_set] at hr hs'; exact h.apart r s' hr hs'

/-- The first k numbers let in. -/
def dipTo (p : Int) (xs : List Int) (k : Nat) : List Int := (List.range xs.length).map fun j => if j < k then dip p (xs.getD j 0) else xs.getD j 0

theorem dipTo_len (p : Int) (xs : List Int) (k : Nat) : (dipTo p xs k).length = xs.length := by simp [dipTo]
theorem dipTo_zero (p : Int) (xs : List Int) : dipTo p xs 0 = xs := by
  unfold dipTo
  simp only [Nat.not_lt_zero, if_false]
  exact list_getD_map_range xs 0
theorem dipTo_all (p : Int) (xs : List Int) : dipTo p xs xs.length = dipRow p xs := by
  refine List.ext_getElem (by simp [dipTo, dipRow]) fun i h1 h2 => ?_
  simp [dipTo] at h1
  simp [dipTo, dipRow, List.getD, h1]
theorem dipTo_at (p : Int) (xs : List Int) {k : Nat} (h : k < xs.length) : (dipTo p xs k).getD k 0 = xs.getD k 0 := by simp [dipTo, List.getD, h]
theorem dipTo_succ (p : Int) (xs : List Int) {k : Nat} : (dipTo p xs k).set k (dip p (xs.getD k 0)) = dipTo p xs (k + 1) := by
  refine List.ext_getElem (by simp [dipTo]) fun i h1 h2 => ?_
  rw [dipTo_len] at h2
  rw [List.getElem_set]
  by_cases e : k = i
  · subst e; simp [dipTo]
  · simp only [if_neg e, dipTo, List.getElem_map, List.getElem_range]
    by_cases h : i < k
    · rw [if_pos h, if_pos (by omega)]
    · rw [if_neg h, if_neg (by omega)]

set_option maxHeartbeats 800000 in
theorem letIn_any (g cap m : Nat) (xs : List Int) (p : Int) (w : World) (h : OwnV w g (ints xs)) (hxl : xs.length = m) (hm : m ≤ 1048576) (hx : ∀ i, i < xs.length → 0 ≤ xs.getD i 0 ∧ xs.getD i 0 ≤ 50) (hp0 : 0 ≤ p) (hp1 : p ≤ 100) :
    Calls Try.prog 59 #[.slice (some ⟨g, 0, none⟩) m cap, .int .i64 p] w fun e w' => e = .returned (.tuple #[]) ∧ Kept (fun b => b = g) w w' ∧ OwnV w' g (ints (dipRow p xs)) := by
  have HX := hide hx
  have HL := hide hxl
  have HO := hide h
  clear hx hxl h
  go_enter Try.func59, Try.ntmps59
  go_wp2
  go_loopg [8] m (fun gh i wr => ∃ k : Nat, k ≤ m ∧ gh = m - k ∧ i = .int .i64 k ∧ Kept (fun b => b = g) w wr ∧ OwnV wr g (ints (dipTo p xs k)))
  case atStart => exact ⟨0, Nat.zero_le _, rfl, rfl, Kept.refl _ _, by rw [dipTo_zero]; exact unhide HO⟩
  case round =>
    obtain ⟨k, hk, rfl, rfl, hK, hO⟩ := hrel
    by_cases hkn : k < m
    · have hkx : k < xs.length := by rw [unhide HL]; exact hkn
      have g1 : wr.cell? ⟨g, k, none⟩ = some (.int .i64 (xs.getD k 0)) := by
        have := hO.cell (i := k) (ints_get _ (by rw [dipTo_len]; exact hkx))
        rwa [dipTo_at p xs hkx] at this
      have g2 := hO.frozen k
      obtain ⟨x1, x2⟩ := unhide HX k hkx
      have HN : Hid (∀ v, v = dip p (xs.getD k 0) → Kept (fun b => b = g) w (wr.setCell ⟨g, k, none⟩ (.int .i64 v)) ∧ OwnV (wr.setCell ⟨g, k, none⟩ (.int .i64 v)) g (ints (dipTo p xs (k + 1)))) := by
        intro v hv
        subst hv
        refine ⟨hK.setCell rfl _, ?_⟩
        have := hO.set k (.int .i64 (dip p (xs.getD k 0))) (by rw [ints_length, dipTo_len]; exact hkx)
        rwa [ints_set, dipTo_succ] at this
      obtain ⟨m1, m2⟩ := mul_bd (a := xs.getD k 0) (b := 100 - p) (A := 50) (B := 100) x1 x2 (by omega) (by omega)
      have HD : Hid (dip p (xs.getD k 0) = xs.getD k 0 * (100 - p) / 100) := hide rfl
      clear hK hO
      generalize xs.getD k 0 = x at *
      generalize em : x * (100 - p) = q at *
      go_wp2
      go_roundg (m - (k + 1))
      case measure => omega
      case rel => exact ⟨k + 1, by omega, rfl, by go_num, unhide HN _ (unhide HD).symm⟩
    · have hkk : k = m := by omega
      have HO' : Hid (OwnV wr g (ints (dipRow p xs))) := by show OwnV _ _ _; rw [← dipTo_all, unhide HL, ← hkk]; exact hO
      have HK := hide hK
      clear hO hK
      go_wp2
      go_end0
      exact ⟨rfl, unhide HK, unhide HO'⟩

end Go.Proofs.Yticcjdcglfiggaa

/- The contract of the program's Flood. -/
namespace Go.Proofs.Yticcjdcglfiggaa
open Go.RowKit

/-- A holed hull: its numbers, its rows (nothing where the rooms aren't right). -/
def fStep (step rise : Int) (R : List (List Int)) (L : List I3) : Int := if roomsB step rise R L = true then step else 0
def fRise (step rise : Int) (R : List (List Int)) (L : List I3) : Int := if roomsB step rise R L = true then rise else 0
def fRows (step rise : Int) (R : List (List Int)) (L : List I3) : List (List Int) := if roomsB step rise R L = true then dips R (fun s => permTo L s L.length) else []

theorem roomsB_at {step rise : Int} {R : List (List Int)} {L : List I3} (h : roomsB step rise R L = true) : hullOk step rise R = true ∧ L.length ≤ 8 ∧ ∀ r, r < L.length → roomAt R.length L r = true := by
  unfold roomsB at h
  simp only [Bool.and_eq_true, decide_eq_true_eq, List.all_eq_true, List.mem_range] at h
  exact ⟨h.1.1, h.1.2, h.2⟩

/-- What room k of right rooms is: within the hull; no station of it lies in one ahead. -/
theorem room_at {n : Nat} {L : List I3} {k : Nat} {x y z : Int} (h : roomAt n L k = true) (hk : k ≤ L.length) (e : L.getD k default = (x, y, z)) :
    0 ≤ x ∧ x ≤ y ∧ y < n ∧ 0 ≤ z ∧ z ≤ 100 ∧ ∀ t : Nat, x ≤ t → (t : Int) ≤ y → permTo L t k = 0 := by
  unfold roomAt at h
  rw [e] at h
  simp only [Bool.and_eq_true, Bool.not_eq_true'] at h
  obtain ⟨h1, h2⟩ := h
  unfold roomB at h1
  simp only [Bool.and_eq_true, decide_eq_true_eq] at h1
  obtain ⟨⟨⟨a1, a2⟩, a3⟩, a4⟩ := h1
  have a4 := inB_true a4
  refine ⟨a1, a2, a3, a4.1, a4.2, fun t ht1 ht2 => ?_⟩
  have hm : ∀ j, j < k → meetB (x, y, z) (L.getD j default) = false := fun j hj => by
    have := List.any_eq_false.1 h2 (L.getD j default) (by
      rw [List.mem_take_iff_getElem]
      exact ⟨j, by omega, by rw [getD_lt (by omega)]⟩)
    simpa using this
  clear h2
  have : ∀ j, j ≤ k → permTo L t j = 0 := fun j => by
    induction j with
    | zero => intro _; rfl
    | succ j ih =>
      intro hj
      rw [permTo, if_neg, ih (by omega)]
      intro hin
      have hin := inB_true hin
      have hmm := hm j (by omega)
      unfold meetB at hmm
      simp only [Bool.and_eq_false_iff, decide_eq_false_iff_not] at hmm
      omega
  exact this k (Nat.le_refl _)

/-- While rooms are let in: of w2 only the rows have turned; each row is let in by P. -/
structure FlSt (B : Nat) (w2 wr : World) (g : Nat) (G C : Nat → Nat) (R : List (List Int)) (P : Nat → Int) : Prop where
  kept : Kept (fun b => ∃ r, r < R.length ∧ b = G r) w2 wr
  rows : OwnRows B wr g G C (dips R P)

theorem FlSt.alloc {B : Nat} {w2 wr : World} {g : Nat} {G C : Nat → Nat} {R : List (List Int)} {P : Nat → Int} (h : FlSt B w2 wr g G C R P) (o : Obj) : FlSt B w2 (wr.alloc o) g G C R P :=
  ⟨h.kept.trans (kept_of_below (Below.alloc1 wr o)), h.rows.below (Below.alloc1 wr o)⟩

theorem FlSt.drew {B : Nat} {w2 wr : World} {g : Nat} {G C : Nat → Nat} {R : List (List Int)} {P : Nat → Int} (h : FlSt B w2 wr g G C R P) : FlSt B w2 wr.drew g G C R P :=
  ⟨h.kept.trans (kept_of_below (Below.refl _ _).drew), h.rows.below (Below.refl _ _).drew⟩

theorem FlSt.congr {B : Nat} {w2 wr : World} {g : Nat} {G C : Nat → Nat} {R : List (List Int)} {P Q : Nat → Int} (h : FlSt B w2 wr g G C R P) (e : ∀ s, s < R.length → P s = Q s) : FlSt B w2 wr g G C R Q :=
  ⟨h.kept, by rw [← dips_congr e]; exact h.rows⟩

theorem FlSt.top {B : Nat} {w2 wr : World} {g : Nat} {G C : Nat → Nat} {R : List (List Int)} {P : Nat → Int} (h : FlSt B w2 wr g G C R P) {t : Nat} (ht : t < R.length) : wr.cell? ⟨g, t, none⟩ = some (.slice (some ⟨G t, 0, none⟩) (R.getD t []).length (C t)) := by
  have := h.rows.top.cell (tops_get G C _ (r := t) (by rw [dips_len]; exact ht))
  rwa [dips_get R P ht, dipRow_len] at this

theorem FlSt.row {B : Nat} {w2 wr : World} {g : Nat} {G C : Nat → Nat} {R : List (List Int)} {P : Nat → Int} (h : FlSt B w2 wr g G C R P) {t : Nat} (ht : t < R.length) (hz : P t = 0) : OwnV wr (G t) (ints (R.getD t [])) := by
  have := h.rows.rows t (by rw [dips_len]; exact ht)
  rwa [dips_get R P ht, hz, dipRow_zero] at this

theorem FlSt.step {B : Nat} {w2 wr w' : World} {g : Nat} {G C : Nat → Nat} {R : List (List Int)} {P : Nat → Int} (h : FlSt B w2 wr g G C R P) {t : Nat} {p : Int} (ht : t < R.length) (hz : P t = 0) (hk : Kept (fun b => b = G t) wr w') (ho : OwnV w' (G t) (ints (dipRow p (R.getD t [])))) :
    FlSt B w2 w' g G C R (fun s => if s = t then p else P s) := by
  refine ⟨h.kept.trans (hk.mono fun k _ e => ⟨t, ht, e⟩), ?_⟩
  rw [← dips_set ht hz]
  refine h.rows.setRow (by rw [dips_len]; exact ht) hk ?_ (by rw [dipRow_len])
  rw [dips_get R P ht, hz, dipRow_zero]
  exact ho

set_option maxHeartbeats 3200000 in
theorem implFlood_any (step rise : Int) (v : Value) (R : List (List Int)) (u : Value) (L : List I3) (w : World) (h : RowsIn w v R) (hL : R3 w u L) :
    Calls Try.prog 20 #[hullV step rise v, u] w fun e w' => ∃ ao n cap, e = .returned (hullV (fStep step rise R L) (fRise step rise R L) (.slice ao n cap)) ∧ OwnRowsV w.heap.size w' (.slice ao n cap) (fRows step rise R L) ∧ Below w.heap.size w w' := by
  have HV := hide h
  have HU := hide hL
  obtain ⟨ao, cap, rfl, hl, hm, hc⟩ := h
  obtain ⟨ao1, cap1, rfl, hl1, hm1, hc1⟩ := hL
  unfold maxLen at hm hm1
  have HC := hide hc1
  clear hc hc1
  unfold hullV
  obtain ⟨W0, eW0⟩ : ∃ W, W = (w.alloc (.cells #[.int .i64 step, .int .i64 rise, .slice ao R.length cap] 26)).alloc (.cells #[.int .i64 0, .int .i64 0, .slice none 0 0] 26) := ⟨_, rfl⟩
  have HW0 : Hid (Below w.heap.size w W0) := by show Below _ _ _; rw [eW0]; exact Below.step (Below.alloc1 _ _) (Below.alloc1 _ _)
  have HB0 : Hid (OwnV W0 w.heap.size [.int .i64 step, .int .i64 rise, .slice ao R.length cap]) := by show OwnV _ _ _; rw [eW0]; exact OwnV.alloc (ownV_alloc w #[.int .i64 step, .int .i64 rise, .slice ao R.length cap] _) _
  have HA0 : Hid (OwnV W0 (w.heap.size + 1) [.int .i64 0, .int .i64 0, .slice none 0 0]) := by
    show OwnV _ _ _
    rw [eW0]
    have := ownV_alloc (w.alloc (.cells #[.int .i64 step, .int .i64 rise, .slice ao R.length cap] 26)) #[.int .i64 0, .int .i64 0, .slice none 0 0] 26
    simpa using this
  go_enter Try.func20, Try.ntmps20
  go_wp2_with fail
  rw [← eW0]
  clear eW0
  refine (implRoomsOk_any step rise _ R _ L _ ((unhide HV).below (unhide HW0)) ((unhide HU).below (unhide HW0))).mono ?_
  rintro e w1 ⟨rfl, hb⟩
  have HW1 := hide (Below.step (unhide HW0) hb)
  have HB1 := hide (OwnV.step (unhide HB0) hb)
  have HA1 := hide (OwnV.step (unhide HA0) hb)
  have hz : w.heap.size + 1 < w1.heap.size := (unhide HA1).lt
  clear hb HW0 HB0 HA0
  cases hok : roomsB step rise R L with
  | false =>
    have E1 : Hid (fStep step rise R L = 0 ∧ fRise step rise R L = 0 ∧ fRows step rise R L = []) := by show _ ∧ _ ∧ _; simp [fStep, fRise, fRows, hok]
    clear hok
    have r0 := OwnV.cell (unhide HA1) (i := 0) rfl
    have r1 := OwnV.cell (unhide HA1) (i := 1) rfl
    have r2 := OwnV.cell (unhide HA1) (i := 2) rfl
    have s0 := (unhide HA1).frozen
    go_wp2
    refine bodyPost_ret (v := .agg #[.int .i64 0, .int .i64 0, .slice none 0 0]) (by simp [results, Try.results20, go_sem, r0, r1, r2]) rfl ⟨none, 0, 0, ?_, ?_, ?_⟩
    · rw [(unhide E1).1, (unhide E1).2.1]
    · rw [(unhide E1).2.2]; exact Or.inl ⟨rfl, rfl⟩
    · exact (((unhide HW1).setCell (by simp) _).setCell (by simp) _).setCell (by simp) _
  | true =>
    have E1 : Hid (fStep step rise R L = step ∧ fRise step rise R L = rise ∧ fRows step rise R L = dips R (fun s => permTo L s L.length)) := by show _ ∧ _ ∧ _; simp [fStep, fRise, fRows, hok]
    obtain ⟨hok1, hlen, hrooms⟩ := roomsB_at hok
    have hR := hullOk_right hok1
    have hl1 := hR.len1
    have hl2 := hR.len2
    have HR := hide hR
    have HRm := hide hrooms
    clear hok hok1 hR hrooms
    have hmk := run_make_row' (P := Try.prog) 24 31 (.slice none 0 0) 24 Try.underlying24 Try.info31 rfl .i64 .i64 R.length (by omega) (by omega)
    have c2 := OwnV.cell (unhide HB1) (i := 2) rfl
    go_wp2
    clear hmk c2
    go_loopg [21] R.length (fun gh iv wr => ∃ k : Nat, ∃ G C, k ≤ R.length ∧ gh = R.length - k ∧ iv = .int .i64 k ∧ FillM w1 wr R k G C)
    case atStart => exact ⟨0, _, _, Nat.zero_le _, rfl, rfl, fillM_start _ _ _ rfl⟩
    case round =>
      obtain ⟨k, G, C, hk, rfl, rfl, hF⟩ := hrel
      have HB2 := hide (OwnV.step (unhide HB1) hF.below)
      have c0 := OwnV.cell (unhide HB2) (i := 0) rfl
      have c1 := OwnV.cell (unhide HB2) (i := 1) rfl
      have c2 := OwnV.cell (unhide HB2) (i := 2) rfl
      have HWr := hide (Below.step (unhide HW1) hF.below)
      have HF := hide hF
      clear hF
      by_cases hkn : k < R.length
      · have HS := hide (station_any step rise _ R (k : Int) k wr ((unhide HV).below (unhide HWr)) rfl hkn)
        go_wp2_with fail
        refine (unhide HS).mono ?_
        rintro e w2 ⟨ar, m, rfl, hi, hb2⟩
        have hml : m = (R.getD 0 []).length := by rw [← (unhide HR).even k hkn]; exact hi.len.1.symm
        have hm1 : 2 ≤ m := by rw [hml]; exact (unhide HR).wat1
        have hm2 : m ≤ 10 := by rw [hml]; exact (unhide HR).wat2
        have EM : Hid ((R.getD k []).length = m) := hi.len.1
        have HI := hide (hi.below hb2)
        have HB2' := hide hb2
        clear hi hb2 hml HS c0 c1 c2
        go_wp2_with fail
        refine (ownCopy_any ar m m _ w2 (unhide HI) (by omega) (by omega)).mono ?_
        rintro e w3 ⟨g, cap3, rfl, hg, hc1, hc2, hov, hb3⟩
        have HN := hide (fillM_step (unhide HF) (unhide HB2') hg hov hb3 (by rw [unhide EM]; exact hc1) hc2)
        rw [unhide EM] at HN
        have hbt := ((unhide HF).top.of_block ((unhide HB2').block _ (unhide HF).top.lt)).of_block (hb3.block _ (Nat.lt_of_lt_of_le (unhide HF).top.lt (unhide HB2').size))
        have t1 : w3.cell? ⟨w1.heap.size, k, none⟩ = some (.slice none 0 0) := by
          have h3 := hbt.cell (i := k) hkn
          rwa [if_neg (Nat.lt_irrefl k)] at h3
        have t2 : w3.frozen? ⟨w1.heap.size, k, none⟩ = false := hbt.frozen k
        clear hov hb3 hg hc1 hc2 hbt HI HB2'
        go_wp2
        go_roundg (R.length - (k + 1))
        case measure => omega
        case rel => exact ⟨k + 1, _, _, by omega, rfl, by go_num, unhide HN⟩
      · have hkk : k = R.length := by omega
        subst hkk
        have HRw := hide (fillM_done (unhide HF))
        have HA2 := hide (OwnV.step (unhide HA1) (unhide HF).below)
        have hz2 := (unhide HF).below.size
        clear HF
        generalize wr = w2 at *
        have HS0 : Hid (FlSt w1.heap.size w2 w2 w1.heap.size G C R (fun s => permTo L s 0)) := by
          refine ⟨Kept.refl _ _, ?_⟩
          rw [show (fun s => permTo L s 0) = fun _ => (0 : Int) from rfl, dips_none]
          exact unhide HRw
        have HG : Hid (∀ r, r < R.length → w1.heap.size ≤ G r ∧ G r ≠ w1.heap.size ∧ G r < w2.heap.size) := fun r hr => ⟨((unhide HRw).above r hr).1, ((unhide HRw).above r hr).2, ((unhide HRw).rows r hr).lt⟩
        clear HRw
        go_wp2
        go_loopg [34] L.length (fun gh iv wr => ∃ k : Nat, k ≤ L.length ∧ gh = L.length - k ∧ iv = .int .i64 k ∧ FlSt w1.heap.size w2 wr w1.heap.size G C R (fun s => permTo L s k))
        case atStart => exact ⟨0, Nat.zero_le _, rfl, rfl, unhide HS0⟩
        case round =>
          obtain ⟨k, hk', rfl, rfl, hS⟩ := hrel
          have hb2 : Below w2.heap.size w2 wr → True := fun _ => trivial
          have HBe : Hid (Below w.heap.size w wr) := (unhide HWr).trans (hS.kept.below (by omega) (fun b ⟨r, hr, e⟩ => by have := (unhide HG r hr).1; omega))
          have HBx : Hid (OwnV wr w.heap.size [.int .i64 step, .int .i64 rise, .slice ao R.length cap]) := OwnV.kept (unhide HB2) hS.kept (fun ⟨r, hr, e⟩ => by have := (unhide HG r hr).1; omega)
          have HAx : Hid (OwnV wr (w.heap.size + 1) [.int .i64 0, .int .i64 0, .slice none 0 0]) := OwnV.kept (unhide HA2) hS.kept (fun ⟨r, hr, e⟩ => by have := (unhide HG r hr).1; omega)
          clear hb2 c0 c1 c2
          by_cases hkn' : k < L.length
          · obtain ⟨b, o, x, y, z, rfl, hc0, hc1, hc2, EX⟩ := rec3At (unhide HC) hkn'
            have g0 := wcell3 hc0 (unhide HBe)
            have g1 := wcell3 hc1 (unhide HBe)
            have g2 := wcell3 hc2 (unhide HBe)
            obtain ⟨x0, xy, yn, z0, z1, hper⟩ := room_at (unhide HRm k hkn') hk' (unhide EX)
            have HPer := hide hper
            have HR3 := hide (ownV_alloc wr #[.int .i64 x, .int .i64 y, .int .i64 z] 37)
            have HS3 := hide (hS.alloc (.cells #[.int .i64 x, .int .i64 y, .int .i64 z] 37))
            have hGlt : Hid (∀ r, r < R.length → G r < wr.heap.size) := fun r hr => (hS.rows.rows r (by rw [dips_len]; exact hr)).lt
            have HPs : Hid (∀ s : Nat, permTo L s (k + 1) = if inB s x y = true then z else permTo L s k) := fun s => by rw [permTo, unhide EX]
            clear hper hc0 hc1 hc2 hS EX HBx HAx
            generalize wr = w3 at *
            go_wp2
            clear g0 g1 g2
            go_loopg [9] (y + 1 - x).toNat (fun gh iv wr => ∃ t : Nat, x ≤ t ∧ (t : Int) ≤ y + 1 ∧ gh = (y + 1 - t).toNat ∧ iv = .int .i64 t ∧ OwnV wr w3.heap.size [.int .i64 x, .int .i64 y, .int .i64 z] ∧ FlSt w1.heap.size w2 wr w1.heap.size G C R (fun s => if x ≤ (s : Int) ∧ s < t then z else permTo L s k))
            case atStart =>
              refine ⟨x.toNat, by omega, by omega, by omega, by congr 1; omega, unhide HR3, (unhide HS3).congr (fun s _ => ?_)⟩
              rw [if_neg (by omega)]
            case round =>
              obtain ⟨t, ht1, ht2, rfl, rfl, hO, hT⟩ := hrel
              have d1 := OwnV.cell hO (i := 1) rfl
              have d2 := OwnV.cell hO (i := 2) rfl
              by_cases hty : (t : Int) ≤ y
              · have htR : t < R.length := by omega
                have e0 := hT.top htR
                have hml := (unhide HR).even t htR
                have hw1 := (unhide HR).wat1
                have hw2 := (unhide HR).wat2
                have hz0 : (fun s : Nat => if x ≤ (s : Int) ∧ s < t then z else permTo L s k) t = 0 := by
                  show (if x ≤ (t : Int) ∧ t < t then z else permTo L t k) = 0
                  rw [if_neg (by omega)]
                  exact unhide HPer t ht1 hty
                have HLet := hide (letIn_any (G t) (C t) (R.getD t []).length (R.getD t []) z wr.drew (hT.drew.row htR hz0) rfl (by omega) (fun i hi => (unhide HR).cells t i htR (by omega)) z0 z1)
                have HNx : Hid (∀ w5, Kept (fun b => b = G t) wr.drew w5 → OwnV w5 (G t) (ints (dipRow z (R.getD t []))) → OwnV w5 w3.heap.size [.int .i64 x, .int .i64 y, .int .i64 z] ∧ FlSt w1.heap.size w2 w5 w1.heap.size G C R (fun s => if x ≤ (s : Int) ∧ s < t + 1 then z else permTo L s k)) := fun w5 hk5 ho5 => by
                  refine ⟨OwnV.kept (OwnV.drew hO) hk5 (fun e => by have := unhide hGlt t htR; omega), (hT.drew.step htR hz0 hk5 ho5).congr (fun s _ => ?_)⟩
                  show (if s = t then z else if x ≤ (s : Int) ∧ s < t then z else permTo L s k) = _
                  by_cases es : s = t
                  · subst es; rw [if_pos rfl, if_pos (by omega)]
                  · rw [if_neg es]
                    by_cases e2 : x ≤ (s : Int) ∧ s < t
                    · rw [if_pos e2, if_pos (by omega)]
                    · rw [if_neg e2, if_neg (by omega)]
                rw [hml] at e0 HLet
                have EM := hide hml
                clear hml
                clear hO hT hz0
                generalize (R.getD 0 []).length = m at *
                go_wp2
                go_region_held3 (fun w' => w'.cell? ⟨w1.heap.size, t, none⟩ = some (.slice (some ⟨G t, 0, none⟩) m (C t)) ∧ w'.cell? ⟨w3.heap.size, 2, none⟩ = some (.int .i64 z)) (go_keep) (first | (go_at_call 59; refine (unhide HLet).mono ?_; rintro e w5 ⟨rfl, hk5, ho5⟩; have HN := hide (unhide HNx w5 hk5 ho5); have f1 := (unhide HN).2.top htR; rw [unhide EM] at f1; have f2 := OwnV.cell (unhide HN).1 (i := 2) rfl; clear hk5 ho5))
                go_wp2
                go_roundg (y + 1 - ((t + 1 : Nat) : Int)).toNat
                case measure => omega
                case rel => exact ⟨t + 1, by omega, by omega, rfl, by go_num, unhide HN⟩
              · have htt : (t : Int) = y + 1 := by omega
                have HT' : Hid (FlSt w1.heap.size w2 wr w1.heap.size G C R (fun s => permTo L s (k + 1))) := hT.congr (fun s _ => by
                  rw [unhide HPs s]
                  by_cases e2 : x ≤ (s : Int) ∧ s < t
                  · rw [if_pos e2, if_pos (inB_mk e2.1 (by omega))]
                  · rw [if_neg e2, if_neg (by intro hin; have := inB_true hin; omega)])
                clear hT
                go_wp2
                go_roundg (L.length - (k + 1))
                case measure => omega
                case rel => exact ⟨k + 1, by omega, rfl, by go_num, unhide HT'⟩
          · have hkk : k = L.length := by omega
            subst hkk
            have c0 := OwnV.cell (unhide HBx) (i := 0) rfl
            have c1 := OwnV.cell (unhide HBx) (i := 1) rfl
            have r0 := OwnV.cell (unhide HAx) (i := 0) rfl
            have r1 := OwnV.cell (unhide HAx) (i := 1) rfl
            have r2 := OwnV.cell (unhide HAx) (i := 2) rfl
            have s0 := (unhide HAx).frozen
            have HSx := hide hS.rows
            clear hS
            go_wp2
            refine bodyPost_ret (v := .agg #[.int .i64 step, .int .i64 rise, .slice (some ⟨w1.heap.size, 0, none⟩) R.length R.length]) (by simp [results, Try.results20, go_sem, r0, r1, r2]) rfl ⟨some ⟨w1.heap.size, 0, none⟩, R.length, R.length, ?_, ?_, ?_⟩
            · rw [(unhide E1).1, (unhide E1).2.1]
            · rw [(unhide E1).2.2]
              refine Or.inr ⟨w1.heap.size, G, C, R.length, by rw [dips_len], by rw [dips_len]; exact Nat.le_refl _, by unfold maxLen; omega, ?_⟩
              exact ((((unhide HSx).setBelow (by simpa using hz) _).setBelow (by simpa using hz) _).setBelow (by simpa using hz) _).mono (by omega)
            · exact (((unhide HBe).setCell (by simp) _).setCell (by simp) _).setCell (by simp) _

end Go.Proofs.Yticcjdcglfiggaa

/- A list of rows that grows by append, a block a row: what is owned, and how it goes on. No statement about the program stands here. -/
namespace Go.Proofs.Yticcjdcglfiggaa
open Go.RowKit

theorem ownsRow_kept {T : Nat → Prop} {w w' : World} {base n size : Nat} {e : TypeId} {v : Value} {xs : List Value} (h : w.ownsRow base e size v n xs) (hk : Kept T w w') (hT : ∀ g, base ≤ g → g < w.heap.size → v.ownBlock = some g → ¬ T g) : w'.ownsRow base e size v n xs := by
  obtain ⟨h1, h2⟩ := h
  refine ⟨h1, ?_⟩
  rcases h2 with h2 | ⟨g, cap, cur, hv, hg, hh, r⟩
  · exact Or.inl h2
  · obtain ⟨hlt, _⟩ := Array.getElem?_eq_some_iff.1 hh
    exact Or.inr ⟨g, cap, cur, hv, hg, (hk.block g hlt (hT g hg hlt (by rw [hv]; rfl))).trans hh, r⟩

theorem Kept.grown {T : Nat → Prop} {a w w' : World} {row : Option Nat} (h : Kept T a w) (hg : w.grownBy w' row) (hr : ∀ k, row = some k → T k) : Kept T a w' :=
  h.trans ⟨hg.os, hg.tape, hg.output, hg.size, fun k hk ht => hg.block k hk (fun e => ht (hr k e.symm))⟩

theorem Kept.alloc {T : Nat → Prop} {a w : World} (h : Kept T a w) (o : Obj) : Kept T a (w.alloc o) := h.trans (kept_of_below (Below.alloc1 w o))

/-- The slice value ov owns one cell a row of R; row r lies at the head of a block of its own. -/
def Grow (t : TypeId) (base : Nat) (w : World) (ov : Value) (R : List (List Int)) : Prop :=
  ∃ vals, w.ownsRow base t 1 ov R.length vals ∧ ∀ r, r < R.length → ∃ g cap, vals[r]? = some (.slice (some ⟨g, 0, none⟩) (R.getD r []).length cap) ∧ (R.getD r []).length ≤ cap ∧ cap ≤ maxLen ∧ OwnV w g (ints (R.getD r [])) ∧ base ≤ g ∧ ov.ownBlock ≠ some g

theorem Grow.start (t : TypeId) (base : Nat) (w : World) : Grow t base w (.slice none 0 0) [] := ⟨[], World.ownsRow_nil _ _ _ _, fun r hr => by simp at hr⟩

theorem Grow.kept {T : Nat → Prop} {t : TypeId} {base : Nat} {w w' : World} {ov : Value} {R : List (List Int)} (h : Grow t base w ov R) (hk : Kept T w w') (hT : ∀ g, base ≤ g → g < w.heap.size → ¬ T g) : Grow t base w' ov R := by
  obtain ⟨vals, ho, hr⟩ := h
  refine ⟨vals, ownsRow_kept ho hk (fun g hg hl _ => hT g hg hl), fun r hlt => ?_⟩
  obtain ⟨g, cap, h1, h2, h3, h4, h5, h6⟩ := hr r hlt
  exact ⟨g, cap, h1, h2, h3, h4.kept hk (hT g h5 h4.lt), h5, h6⟩

theorem Grow.below {t : TypeId} {base : Nat} {w w' : World} {ov : Value} {R : List (List Int)} (h : Grow t base w ov R) (hb : Below w.heap.size w w') : Grow t base w' ov R :=
  h.kept (T := fun _ => False) (kept_of_below hb) (fun _ _ _ h => h)

theorem Grow.mono {t : TypeId} {base base' : Nat} {w : World} {ov : Value} {R : List (List Int)} (h : Grow t base w ov R) (hb : base' ≤ base) : Grow t base' w ov R := by
  obtain ⟨vals, ho, hr⟩ := h
  refine ⟨vals, ⟨ho.1, ho.2.elim Or.inl (fun ⟨g, cap, cur, hv, hg, r⟩ => Or.inr ⟨g, cap, cur, hv, Nat.le_trans hb hg, r⟩)⟩, fun r hlt => ?_⟩
  obtain ⟨g, cap, h1, h2, h3, h4, h5, h6⟩ := hr r hlt
  exact ⟨g, cap, h1, h2, h3, h4, Nat.le_trans hb h5, h6⟩

/-- Where there is a row the list lies at the head of a block of its own. -/
theorem Grow.form {t : TypeId} {base : Nat} {w : World} {ov : Value} {R : List (List Int)} (h : Grow t base w ov R) (hn : 0 < R.length) : ∃ g cap, ov = .slice (some ⟨g, 0, none⟩) R.length cap ∧ base ≤ g ∧ R.length ≤ cap ∧ cap ≤ maxLen := by
  obtain ⟨vals, ⟨_, h2⟩, _⟩ := h
  rcases h2 with ⟨_, h0⟩ | ⟨g, cap, cur, hv, hg, hh, hc, hm, _⟩
  · omega
  · exact ⟨g, cap, hv, hg, hc, hm⟩

theorem getD_snoc {α : Type} (R : List α) (x d : α) (r : Nat) : (R ++ [x]).getD r d = if r < R.length then R.getD r d else if r = R.length then x else d := by
  by_cases h : r < R.length
  · rw [if_pos h]; simp [List.getD, List.getElem?_append_left h]
  · rw [if_neg h]
    by_cases e : r = R.length
    · subst e; simp [List.getD]
    · rw [if_neg e, List.getD, List.getElem?_eq_none (by simp; omega)]; rfl

/-- One row more, behind the law of append. -/
theorem Grow.push {t : TypeId} {base : Nat} {w w1 w2 : World} {ov : Value} {R : List (List Int)} {row : List Int} {g cap g' cap' H : Nat} {vals : List Value}
    (hr : ∀ r, r < R.length → ∃ g cap, vals[r]? = some (.slice (some ⟨g, 0, none⟩) (R.getD r []).length cap) ∧ (R.getD r []).length ≤ cap ∧ cap ≤ maxLen ∧ OwnV w g (ints (R.getD r [])) ∧ base ≤ g ∧ ov.ownBlock ≠ some g)
    (hvl : vals.length = R.length) (hb : Below w.heap.size w w1) (ho : OwnV w g (ints row)) (hg : base ≤ g) (hne : ov.ownBlock ≠ some g) (hc1 : row.length ≤ cap) (hc2 : cap ≤ maxLen) (hH : w.heap.size ≤ H)
    (hown : w2.ownsRow base t 1 (.slice (some ⟨g', 0, none⟩) (R.length + 1) cap') (R.length + 1) (vals ++ [.slice (some ⟨g, 0, none⟩) row.length cap])) (hgrow : w1.grownBy w2 ov.ownBlock) (hat : ov.ownBlock = some g' ∨ g' = H) :
    Grow t base w2 (.slice (some ⟨g', 0, none⟩) (R.length + 1) cap') (R ++ [row]) := by
  refine ⟨vals ++ [.slice (some ⟨g, 0, none⟩) row.length cap], by rw [List.length_append]; exact hown, fun r hlt => ?_⟩
  rw [List.length_append] at hlt
  simp only [List.length_cons, List.length_nil, Nat.zero_add] at hlt
  have far : ∀ x, x < w.heap.size → ov.ownBlock ≠ some x → (Value.slice (some ⟨g', 0, none⟩) (R.length + 1) cap').ownBlock ≠ some x ∧ w2.heap[x]? = w.heap[x]? := fun x hx hnx => by
    constructor
    · intro e
      have e' : g' = x := by simpa [Value.ownBlock] using e
      subst e'
      rcases hat with h | h
      · exact hnx h
      · omega
    · rw [hgrow.block x (Nat.lt_of_lt_of_le hx hb.size) (fun e => hnx e.symm), hb.block x hx]
  rw [getD_snoc]
  by_cases h : r < R.length
  · rw [if_pos h]
    obtain ⟨g1, cap1, h1, h2, h3, h4, h5, h6⟩ := hr r h
    obtain ⟨f1, f2⟩ := far g1 h4.lt h6
    exact ⟨g1, cap1, by rw [List.getElem?_append_left (by omega)]; exact h1, h2, h3, h4.of_block f2, h5, f1⟩
  · rw [if_neg h, if_pos (by omega)]
    obtain ⟨f1, f2⟩ := far g ho.lt hne
    exact ⟨g, cap, by rw [List.getElem?_append_right (by omega)]; simp [show r - vals.length = 0 by omega], hc1, hc2, ho.of_block f2, hg, f1⟩

theorem Grow.rowsIn {t : TypeId} {base : Nat} {w : World} {ov : Value} {R : List (List Int)} (h : Grow t base w ov R) : RowsIn w ov R := by
  obtain ⟨vals, ⟨h1, h2⟩, hr⟩ := h
  rcases h2 with ⟨rfl, h0⟩ | ⟨g, cap, cur, rfl, hg, hh, hc, hm, hs, ht⟩
  · have : R = [] := List.length_eq_zero_iff.1 h0
    subst this
    exact ⟨none, 0, rfl, Nat.le_refl _, Nat.zero_le _, fun r hr => by simp at hr⟩
  · refine ⟨_, cap, rfl, hc, hm, fun r hlt => ?_⟩
    obtain ⟨g1, cap1, e1, e2, e3, e4, _, _⟩ := hr r hlt
    refine ⟨g, 0, _, rfl, ?_, e4.intsIn e2 e3⟩
    rw [Nat.zero_add]
    have : cur[r]? = some (.slice (some ⟨g1, 0, none⟩) (R.getD r []).length cap1) := by
      rw [← ht] at e1
      rw [List.getElem?_take, if_pos (by omega)] at e1
      simpa using e1
    simp [World.cell?, hh, this]

end Go.Proofs.Yticcjdcglfiggaa

/- A hull in a box of the call's own whose rows grow by append, a block a row. No statement about the program stands here. -/
namespace Go.Proofs.Yticcjdcglfiggaa
open Go.RowKit

structure MirSt (w1 wr : World) (step rise : Int) (ov : Value) (M : List (List Int)) : Prop where
  below : Below w1.heap.size w1 wr
  box : OwnV wr w1.heap.size [.int .i64 step, .int .i64 rise, ov]
  grow : Grow 31 (w1.heap.size + 1) wr ov M

theorem MirSt.push {w1 wr w2 w3 : World} {step rise : Int} {ao : Option Addr} {cap : Nat} {M : List (List Int)} {row : List Int} {g rcap g' cap' n : Nat} {vals : List Value} {o : Obj}
    (hn : M.length = n) (h : MirSt w1 wr step rise (.slice ao n cap) M) (hb : Below wr.heap.size wr w2)
    (hr : ∀ r, r < M.length → ∃ g cap', vals[r]? = some (.slice (some ⟨g, 0, none⟩) (M.getD r []).length cap') ∧ (M.getD r []).length ≤ cap' ∧ cap' ≤ maxLen ∧ OwnV wr g (ints (M.getD r [])) ∧ w1.heap.size + 1 ≤ g ∧ (Value.slice ao n cap).ownBlock ≠ some g)
    (hvl : vals.length = M.length) (ho : OwnV w2 g (ints row)) (hg : wr.heap.size ≤ g) (hc1 : row.length ≤ rcap) (hc2 : rcap ≤ maxLen)
    (hbl : ∀ k, (Value.slice ao n cap).ownBlock = some k → w1.heap.size + 1 ≤ k ∧ k < wr.heap.size)
    (hown : w3.ownsRow (w1.heap.size + 1) 31 1 (.slice (some ⟨g', 0, none⟩) (n + 1) cap') (n + 1) (vals ++ [.slice (some ⟨g, 0, none⟩) row.length rcap])) (hgrow : (w2.alloc o).grownBy w3 (Value.slice ao n cap).ownBlock)
    (hat : (Value.slice ao n cap).ownBlock = some g' ∨ g' = w2.heap.size + 1) :
    MirSt w1 (w3.setCell ⟨w1.heap.size, 2, none⟩ (.slice (some ⟨g', 0, none⟩) (n + 1) cap')) step rise (.slice (some ⟨g', 0, none⟩) (n + 1) cap') (M ++ [row]) := by
  subst hn
  have hs2 := hb.size
  have hlt := h.box.lt
  have G2 := Grow.push (w := w2) (fun r hlt => by obtain ⟨g, c, a1, a2, a3, a4, a5, a6⟩ := hr r hlt; exact ⟨g, c, a1, a2, a3, a4.below hb a4.lt, a5, a6⟩) hvl (Below.alloc1 w2 o) ho (by omega) (fun e => by have := (hbl g e).2; omega) hc1 hc2 (by omega) hown hgrow hat
  have K2 : Kept (fun b => w1.heap.size + 1 ≤ b) wr w3 := ((kept_of_below hb).alloc o).grown hgrow (fun k e => (hbl k e).1)
  refine ⟨?_, (h.box.kept K2 (by omega)).set 2 _ (by simp), ?_⟩
  · exact (h.below.trans (K2.below (by omega) (fun k e => by omega))).setCell (Nat.le_refl _) _
  · exact G2.kept ((Kept.refl (fun b => b = w1.heap.size) w3).setCell (p := ⟨w1.heap.size, 2, none⟩) rfl _) (fun x hx _ e => by omega)

theorem mir_inner {w : World} {base m g cap : Nat} {row : List Int} (h : w.ownsRow base 3 1 (.slice (some ⟨g, 0, none⟩) (0 + m) cap) (0 + m) (ints [] ++ ints row)) (hm : 0 < m) (hr : row.length = m) : base ≤ g ∧ m ≤ cap ∧ cap ≤ maxLen ∧ OwnV w g (ints row) := by
  obtain ⟨_, h2⟩ := h
  rcases h2 with ⟨_, h0⟩ | ⟨g', cap', cur, hv, hg, hh, hc, hm', hs, ht⟩
  · omega
  · simp only [Value.slice.injEq, Option.some.injEq, Addr.mk.injEq, and_true, true_and] at hv
    obtain ⟨rfl, rfl⟩ := hv
    refine ⟨hg, by omega, hm', cur, _, hh, fun i hi => ?_⟩
    have e : cur.toList.take ((0 + m) * 1) = ints row := by simpa [ints] using ht
    rw [← e]
    rw [ints_length] at hi
    rw [List.getElem?_take, if_pos (by omega)]
    simp

theorem mir_out (w : World) (N : Nat) (x y z : Value) : Kept (fun b => b = N) w (((w.setCell ⟨N, 0, none⟩ x).setCell ⟨N, 1, none⟩ y).setCell ⟨N, 2, none⟩ z) :=
  (((Kept.refl (fun b => b = N) w).setCell (p := ⟨N, 0, none⟩) rfl _).setCell (p := ⟨N, 1, none⟩) rfl _).setCell (p := ⟨N, 2, none⟩) rfl _

theorem MirSt.step {w1 wr w' : World} {step rise : Int} {ov : Value} {M : List (List Int)} (h : MirSt w1 wr step rise ov M) (hb : Below wr.heap.size wr w') : MirSt w1 w' step rise ov M :=
  ⟨Below.step h.below hb, OwnV.step h.box hb, h.grow.below hb⟩

theorem ints_snoc' (xs : List Int) (x : Int) : ints (xs ++ [x]) = ints xs ++ [.int .i64 x] := by simp [ints]

/-- The row that an append loop has built. -/
theorem row_own {w : World} {base m : Nat} {v : Value} {row : List Int} (h : w.ownsRow base 3 1 v m (ints row)) (hm : 0 < m) (hr : row.length = m) : ∃ g cap, v = .slice (some ⟨g, 0, none⟩) m cap ∧ base ≤ g ∧ m ≤ cap ∧ cap ≤ maxLen ∧ OwnV w g (ints row) := by
  obtain ⟨_, h2⟩ := h
  rcases h2 with ⟨_, h0⟩ | ⟨g1, cap1, cur, hv, hg, hh, hc, hm', hs, ht⟩
  · omega
  · refine ⟨g1, cap1, hv, hg, by omega, hm', cur, _, hh, fun i hi => ?_⟩
    rw [← ht]
    rw [ints_length] at hi
    simp [show i < m by omega]

end Go.Proofs.Yticcjdcglfiggaa

/- The contract of the specification's Flood. -/
namespace Go.Proofs.Yticcjdcglfiggaa
open Go.RowKit

theorem permTo_bd {n : Nat} {L : List I3} (h : ∀ r, r < L.length → roomAt n L r = true) (s : Nat) : ∀ k, k ≤ L.length → 0 ≤ permTo L s k ∧ permTo L s k ≤ 100
  | 0, _ => by simp [permTo]
  | k + 1, hk => by
    have hr := room_at (x := (L.getD k default).1) (y := (L.getD k default).2.1) (z := (L.getD k default).2.2) (h k (by omega)) (by omega) rfl
    rw [permTo]
    split
    · exact ⟨hr.2.2.2.1, hr.2.2.2.2.1⟩
    · exact permTo_bd h s k (by omega)

/-- The first k rows, let in. -/
def dipsTo (R : List (List Int)) (P : Nat → Int) (k : Nat) : List (List Int) := (List.range k).map fun s => dipRow (P s) (R.getD s [])
theorem dipsTo_len (R : List (List Int)) (P : Nat → Int) (k : Nat) : (dipsTo R P k).length = k := by simp [dipsTo]
theorem dipsTo_succ (R : List (List Int)) (P : Nat → Int) (k : Nat) : dipsTo R P (k + 1) = dipsTo R P k ++ [dipRow (P k) (R.getD k [])] := by simp [dipsTo, List.range_succ]
theorem dipRow_take (p : Int) (row : List Int) {j : Nat} (hj : j < row.length) : dipRow p (row.take (j + 1)) = dipRow p (row.take j) ++ [dip p (row.getD j 0)] := by
  unfold dipRow
  rw [List.take_add_one, List.getElem?_eq_getElem hj, getD_lt hj, List.map_append]
  rfl

set_option maxHeartbeats 6400000 in
theorem specFlood_any (step rise : Int) (v : Value) (R : List (List Int)) (u : Value) (L : List I3) (w : World) (h : RowsIn w v R) (hL : R3 w u L) :
    Calls Try.prog 32 #[hullV step rise v, u] w fun e w' => ∃ ao n cap, e = .returned (hullV (fStep step rise R L) (fRise step rise R L) (.slice ao n cap)) ∧ RowsIn w' (.slice ao n cap) (fRows step rise R L) ∧ Below w.heap.size w w' := by
  have HV := hide h
  have HU := hide hL
  obtain ⟨ao, cap, rfl, hl, hm, hc⟩ := h
  obtain ⟨ao1, cap1, rfl, hl1, hm1, hc1⟩ := hL
  unfold maxLen at hm hm1
  have HCr := hide hc
  have HC := hide hc1
  clear hc hc1
  unfold hullV
  obtain ⟨W0, eW0⟩ : ∃ W, W = (w.alloc (.cells #[.int .i64 step, .int .i64 rise, .slice ao R.length cap] 26)).alloc (.cells #[.int .i64 0, .int .i64 0, .slice none 0 0] 26) := ⟨_, rfl⟩
  have HW0 : Hid (Below w.heap.size w W0) := by show Below _ _ _; rw [eW0]; exact Below.step (Below.alloc1 _ _) (Below.alloc1 _ _)
  have HB0 : Hid (OwnV W0 w.heap.size [.int .i64 step, .int .i64 rise, .slice ao R.length cap]) := by show OwnV _ _ _; rw [eW0]; exact OwnV.alloc (ownV_alloc w #[.int .i64 step, .int .i64 rise, .slice ao R.length cap] _) _
  have HA0 : Hid (OwnV W0 (w.heap.size + 1) [.int .i64 0, .int .i64 0, .slice none 0 0]) := by
    show OwnV _ _ _
    rw [eW0]
    have := ownV_alloc (w.alloc (.cells #[.int .i64 step, .int .i64 rise, .slice ao R.length cap] 26)) #[.int .i64 0, .int .i64 0, .slice none 0 0] 26
    simpa using this
  go_enter Try.func32, Try.ntmps32
  go_wp2_with fail
  rw [← eW0]
  clear eW0
  refine (specRoomsOk_any step rise _ R _ L _ ((unhide HV).below (unhide HW0)) ((unhide HU).below (unhide HW0))).mono ?_
  rintro e w1 ⟨rfl, hb⟩
  have HW1 := hide (Below.step (unhide HW0) hb)
  have HB1 := hide (OwnV.step (unhide HB0) hb)
  have HA1 := hide (OwnV.step (unhide HA0) hb)
  have hz : w.heap.size + 1 < w1.heap.size := (unhide HA1).lt
  clear hb HW0 HB0 HA0
  cases hok : roomsB step rise R L with
  | false =>
    have E1 : Hid (fStep step rise R L = 0 ∧ fRise step rise R L = 0 ∧ fRows step rise R L = []) := by show _ ∧ _ ∧ _; simp [fStep, fRise, fRows, hok]
    clear hok
    have r0 := OwnV.cell (unhide HA1) (i := 0) rfl
    have r1 := OwnV.cell (unhide HA1) (i := 1) rfl
    have r2 := OwnV.cell (unhide HA1) (i := 2) rfl
    have s0 := (unhide HA1).frozen
    go_wp2
    refine bodyPost_ret (v := .agg #[.int .i64 0, .int .i64 0, .slice none 0 0]) (by simp [results, Try.results32, go_sem, r0, r1, r2]) rfl ⟨none, 0, 0, ?_, ?_, ?_⟩
    · rw [(unhide E1).1, (unhide E1).2.1]
    · rw [(unhide E1).2.2]; exact ⟨none, 0, rfl, Nat.le_refl _, Nat.zero_le _, fun r hr => by simp at hr⟩
    · exact (((unhide HW1).setCell (by simp) _).setCell (by simp) _).setCell (by simp) _
  | true =>
    have E1 : Hid (fStep step rise R L = step ∧ fRise step rise R L = rise ∧ fRows step rise R L = dipsTo R (fun s => permTo L s L.length) R.length) := by show _ ∧ _ ∧ _; simp [fStep, fRise, fRows, hok]; rfl
    obtain ⟨hok1, hlen, hrooms⟩ := roomsB_at hok
    have hR := hullOk_right hok1
    have hl1 := hR.len1
    have hl2 := hR.len2
    have HR := hide hR
    have HRm := hide hrooms
    clear hok hok1 hR hrooms
    have c0 := OwnV.cell (unhide HB1) (i := 0) rfl
    have c1 := OwnV.cell (unhide HB1) (i := 1) rfl
    have M0 : Hid (MirSt w1 (w1.alloc (.cells #[.int .i64 step, .int .i64 rise, .slice none 0 0] 26)) step rise (.slice none 0 0) (dipsTo R (fun s => permTo L s L.length) 0)) :=
      ⟨Below.alloc1 _ _, ⟨_, _, Go.Deep.blk_alloc_new _ _, fun i _ => by simp⟩, Grow.start _ _ _⟩
    go_wp2
    clear c0 c1
    go_loopg [6] R.length (fun gh iv wr => ∃ k : Nat, ∃ ov, k ≤ R.length ∧ gh = R.length - k ∧ iv = .int .i64 k ∧ MirSt w1 wr step rise ov (dipsTo R (fun s => permTo L s L.length) k))
    case atStart => exact ⟨0, _, Nat.zero_le _, rfl, rfl, unhide M0⟩
    case round =>
      obtain ⟨k, ov, hk, rfl, rfl, hM⟩ := hrel
      clear M0
      obtain ⟨ao2, cap2, eov, _, _, _⟩ := hM.grow.rowsIn
      rw [dipsTo_len] at eov
      subst eov
      have HM := hide hM
      have HWr := hide (Below.step (unhide HW1) hM.below)
      have HBr := hide (OwnV.step (unhide HB1) hM.below)
      clear hM
      generalize wr = wo at *
      by_cases hkn : k < R.length
      · have c2 := OwnV.cell (unhide HBr) (i := 2) rfl
        go_wp2
        clear c2
        go_loopg [7, 8] L.length (fun gh pv iv wr => Below wo.heap.size wo wr ∧ ∃ j : Nat, j ≤ L.length ∧ gh = L.length - j ∧ iv = .int .i64 j ∧ pv = .int .i64 (permTo L k j))
        case atStart => exact ⟨Below.refl _ _, 0, Nat.zero_le _, rfl, rfl, rfl⟩
        case round =>
          obtain ⟨hb, j, hj, rfl, rfl, rfl⟩ := hrel
          by_cases hjn : j < L.length
          · obtain ⟨b, o, x, y, z, rfl, hc0, hc1, hc2, EX⟩ := rec3At (unhide HC) hjn
            have g0 := wcell3 (wcell3 hc0 (unhide HWr)) hb
            have g1 := wcell3 (wcell3 hc1 (unhide HWr)) hb
            have g2 := wcell3 (wcell3 hc2 (unhide HWr)) hb
            have HN : Hid (permTo L k (j + 1) = if inB k x y = true then z else permTo L k j) := by show _ = _; rw [permTo, unhide EX]
            have HB := hide hb
            clear hc0 hc1 hc2 EX hb
            generalize permTo L k j = pj at *
            go_wp2
            go_quiet ((go_at_call 77; exact Calls.quiet_of_same (l1In_any _ _ _ _)))
            have g2' : (wr.drewN nq).cell? ⟨b, o + j * 3 + 2, none⟩ = some (.int .i64 z) := g2
            cases hin : inB (k : Int) x y with
            | true =>
              go_wp2
              go_roundg (L.length - (j + 1))
              case measure => omega
              case rel => exact ⟨below_drewN (unhide HB) _, j + 1, by omega, rfl, by go_num, by rw [unhide HN, hin, if_pos rfl]⟩
            | false =>
              go_wp2
              go_roundg (L.length - (j + 1))
              case measure => omega
              case rel => exact ⟨below_drewN (unhide HB) _, j + 1, by omega, rfl, by go_num, by rw [unhide HN, hin, if_neg (by simp)]⟩
          · have hjj : j = L.length := by omega
            subst hjj
            obtain ⟨p0, p1⟩ := permTo_bd (unhide HRm) k L.length (Nat.le_refl _)
            obtain ⟨P, eP⟩ : ∃ P : Nat → Int, P = fun s => permTo L s L.length := ⟨_, rfl⟩
            have EPk : Hid (permTo L k L.length = P k) := by show _ = _; rw [eP]
            rw [unhide EPk] at p0 p1 ⊢
            rw [← eP] at HM E1
            have EP := hide eP
            clear eP
            have HM3 := hide ((unhide HM).step hb)
            have HW3 := hide (Below.step (unhide HWr) hb)
            have HB3 := hide (OwnV.step (unhide HBr) hb)
            clear hb HM HWr HBr
            generalize wr = w3 at *
            have OE : Hid ((w3.alloc (.cells #[] 3)).ownsRow w3.heap.size 3 1 (.slice (some ⟨w3.heap.size, 0, none⟩) 0 0) 0 (ints (dipRow (P k) ((R.getD k []).take 0)))) :=
              ⟨rfl, Or.inr ⟨w3.heap.size, 0, #[], rfl, Nat.le_refl _, Go.Deep.blk_alloc_new _ _, Nat.le_refl _, Nat.zero_le _, rfl, rfl⟩⟩
            obtain ⟨br, orr, ar, m, cr, rfl, hcell, hrow, EM, hm0⟩ := rowAt (unhide HCr) hkn
            have HRow := hide hrow
            have HCl := hide hcell
            have hm1 : 2 ≤ m := by rw [← unhide EM, (unhide HR).even _ hkn]; exact (unhide HR).wat1
            have hm2 : m ≤ 10 := by rw [← unhide EM, (unhide HR).even _ hkn]; exact (unhide HR).wat2
            have HCell : Hid (∀ j, j < m → 0 ≤ (R.getD k []).getD j 0 ∧ (R.getD k []).getD j 0 ≤ 50) := fun j hj => (unhide HR).cells k j hkn (by rw [← (unhide HR).even k hkn, unhide EM]; exact hj)
            obtain ⟨row, erow⟩ : ∃ row, row = R.getD k [] := ⟨_, rfl⟩
            rw [← erow] at OE HRow EM HCell
            have ERow := hide erow
            clear hrow hcell erow
            go_wp2
            go_loopg [9, 10] m (fun gh rv iv wr => ∃ j : Nat, j ≤ m ∧ gh = m - j ∧ iv = .int .i64 j ∧ wr.ownsRow w3.heap.size 3 1 rv j (ints (dipRow (P k) (row.take j))) ∧ Below w3.heap.size w3 wr)
            case atStart => exact ⟨0, Nat.zero_le _, rfl, rfl, unhide OE, Below.alloc1 _ _⟩
            case round =>
              obtain ⟨j, hj, rfl, rfl, hO, hb⟩ := hrel
              have HO := hide hO
              have HB := hide hb
              have hsz := hb.size
              have c2 := OwnV.cell (OwnV.step (unhide HB3) hb) (i := 2) rfl
              have q1 := wcell3 (wcell3 (unhide HCl) (unhide HW3)) hb
              clear hO hb
              by_cases hjm : j < m
              · obtain ⟨i0, hi, hz0, hz1, hz2⟩ := info_parts Try.info3
                obtain ⟨b1, o1, rfl, hx⟩ := intAt (((unhide HRow).below (unhide HW3)).below (unhide HB)) hjm
                obtain ⟨x1, x2⟩ := unhide HCell j hjm
                have HN : Hid (dipRow (P k) (row.take (j + 1)) = dipRow (P k) (row.take j) ++ [row.getD j 0 * (100 - P k) / 100]) := dipRow_take _ _ (by rw [unhide EM]; exact hjm)
                obtain ⟨m1, m2⟩ := mul_bd (a := row.getD j 0) (b := 100 - P k) (A := 50) (B := 100) x1 x2 (by omega) (by omega)
                generalize row.getD j 0 = x at *
                generalize em : x * (100 - P k) = q at *
                go_wp2_with (at_builtin; refine wpList_append_own _ rfl _ _ 31 rfl w3.heap.size 3 i0 (.int .i64 0) 1 8 Try.underlying31 hi hz0 hz1 hz2 rfl (by decide) _ _ _ rfl ((unhide HO).alloc _) ⟨wr.heap.size, 0, none⟩ 1 1 [.int .i64 (q / 100)] rfl rfl ?c1 ?c2 ?c3 ?c4 ?c5 ?_)
                case c1 => exact cell_one_new _ _ _
                case c2 => intro u hu; simp at hu; subst hu; rfl
                case c3 => unfold maxLen; omega
                case c4 => omega
                case c5 => simp; omega
                intro v' wa hown' hgrow _
                have HOa : Hid (wa.ownsRow w3.heap.size 3 1 v' (j + 1) (ints (dipRow (P k) (row.take (j + 1))))) := by show World.ownsRow _ _ _ _ _ _ _; rw [unhide HN, ints_snoc']; exact hown'
                have HBa : Hid (Below w3.heap.size w3 wa) := ((unhide HB).alloc (by omega) _).grown hgrow (by simp; omega) (fun g hg => ((unhide HO).lt g hg).1)
                clear hown' hgrow HO HB hi hz0 hz1 hz2
                go_wp2
                go_roundg (m - (j + 1))
                case measure => omega
                case rel => exact ⟨j + 1, by omega, rfl, by go_num, unhide HOa, unhide HBa⟩
              · have hjj : j = m := by omega
                subst hjj
                have hrl := unhide EM
                have etake : row.take j = row := List.take_of_length_le (by omega)
                have hO := unhide HO
                rw [etake] at hO
                obtain ⟨g1, cap1', hv, hg1, hcap1, hcap2, hov1⟩ := row_own hO (by omega) (by rw [dipRow_len]; exact hrl)
                obtain ⟨vals, hvo3, hvr3⟩ := (unhide HM3).grow
                rw [dipsTo_len] at hvo3
                have HBl : Hid (∀ q, (Value.slice ao2 k cap2).ownBlock = some q → w1.heap.size + 1 ≤ q ∧ q < w3.heap.size) := fun q hq => hvo3.lt q hq
                have HVL : Hid (vals.length = (dipsTo R P k).length) := by show _ = _; rw [dipsTo_len]; have := hvo3.1; omega
                have HVO := hide (ownsRow_below hvo3 (unhide HB))
                have HVR := hide hvr3
                have HV1 := hide hov1
                have HBX := hide (OwnV.step (unhide HM3).box (unhide HB))
                have t2 := OwnV.cell (unhide HBX) (i := 2) rfl
                have hlt3 := (unhide HM3).box.lt
                have ERl : Hid ((dipRow (P k) row).length = j) := by show _ = _; rw [dipRow_len]; exact hrl
                obtain ⟨i1, hi, hz0, hz1, hz2⟩ := info_parts Try.info31
                subst hv
                clear hO etake hrl hvo3 hvr3 hov1
                go_wp2_with (at_builtin; refine wpList_append_lies _ rfl _ _ 24 rfl (w1.heap.size + 1) 31 i1 (.slice none 0 0) 1 24 Try.underlying24 hi hz0 hz1 hz2 rfl (by decide) (.slice ao2 k cap2) k vals rfl ((unhide HVO).alloc _) ⟨wr.heap.size, 0, none⟩ 1 1 [.slice (some ⟨g1, 0, none⟩) j cap1'] rfl rfl (cell_one_new _ _ _) (by simp [Value.oneCell']) (by omega) (by unfold maxLen; omega) (by omega) (by simp; omega) (wr.heap.size + 1) (by simp) ?_; intro g' cap' w5 hown' hgrow hat _; have hbx2 : OwnV w5 w1.heap.size [.int .i64 step, .int .i64 rise, .slice ao2 k cap2] := (((unhide HBX).alloc _).of_block (hgrow.block _ (by simp; omega) (fun e => by have := (unhide HBl _ e.symm).1; omega))); have t2' := hbx2.cell (i := 2) rfl; have f2' := hbx2.frozen 2; have HN := hide (MirSt.push (rcap := cap1') (dipsTo_len R P k) (unhide HM3) (unhide HB) (unhide HVR) (unhide HVL) (unhide HV1) hg1 (by rw [unhide ERl]; exact hcap1) hcap2 (unhide HBl) (by rw [unhide ERl]; exact hown') hgrow hat); clear hown' hgrow hat hbx2)
                go_roundg (R.length - (k + 1))
                case measure => omega
                case rel => exact ⟨k + 1, _, by omega, rfl, by go_num, by rw [show (fun s => permTo L s L.length) = P from (unhide EP).symm, dipsTo_succ, ← unhide ERow]; exact unhide HN⟩
      · have hkk : k = R.length := by omega
        subst hkk
        have hO := OwnV.step (unhide HA1) (unhide HM).below
        have r0 := hO.cell (i := 0) rfl
        have r1 := hO.cell (i := 1) rfl
        have r2 := hO.cell (i := 2) rfl
        have s0 := hO.frozen
        have hX := (unhide HM).box
        have t0 := hX.cell (i := 0) rfl
        have t1 := hX.cell (i := 1) rfl
        have t2 := hX.cell (i := 2) rfl
        have c2 := OwnV.cell (unhide HBr) (i := 2) rfl
        clear hO hX
        go_wp2
        refine bodyPost_ret (v := .agg #[.int .i64 step, .int .i64 rise, .slice ao2 R.length cap2]) (by simp [results, Try.results32, go_sem, r0, r1, r2]) rfl ⟨ao2, R.length, cap2, ?_, ?_, ?_⟩
        · rw [(unhide E1).1, (unhide E1).2.1]
        · rw [(unhide E1).2.2]
          exact ((unhide HM).grow.kept (mir_out wo (w.heap.size + 1) _ _ _) (fun g hg _ e => by omega)).rowsIn
        · exact (((unhide HWr).setCell (by simp) _).setCell (by simp) _).setCell (by simp) _

end Go.Proofs.Yticcjdcglfiggaa

/- How long a holed hull's rows are. -/
namespace Go.Proofs.Yticcjdcglfiggaa
open Go.RowKit

theorem fRows_bd (step rise : Int) (R : List (List Int)) (L : List I3) : (fRows step rise R L).length ≤ 1048576 ∧ ∀ i, i < (fRows step rise R L).length → ((fRows step rise R L).getD i []).length ≤ 1048576 := by
  unfold fRows
  by_cases h : roomsB step rise R L = true
  · rw [if_pos h]
    have hR := hullOk_right (roomsB_at h).1
    have h2 := hR.len2
    have h3 := hR.wat2
    rw [dips_len]
    refine ⟨by omega, fun i hi => ?_⟩
    rw [dips_get R _ hi, dipRow_len, hR.even _ hi]
    omega
  · rw [if_neg h]; simp

end Go.Proofs.Yticcjdcglfiggaa

/- The first case that does not stand well, as a plain function; contracts of the program's and the specification's FirstBad. -/
import Derived.Test.YticcjdcglfiggaaStJ
import Derived.Test.YticcjdcglfiggaaRRoomSS
namespace Go.Proofs.Yticcjdcglfiggaa
open Go.RowKit

def firstBad (step rise : Int) (R : List (List Int)) (L : List I3) (T : List I2) (QQ : List (List I3)) (f : I2) : Int :=
  if QQ.length ≤ 20 then
    match (List.range QQ.length).find? fun k : Nat => decide (stands step rise R L T (QQ.getD k []) f ≠ 0) with
    | some k => (k : Int)
    | none => -1
  else -2

theorem firstBad_some {step rise : Int} {R : List (List Int)} {L : List I3} {T : List I2} {QQ : List (List I3)} {f : I2} {k : Nat} (h1 : QQ.length ≤ 20) (hk : k < QQ.length) (hp : stands step rise R L T (QQ.getD k []) f ≠ 0)
    (hn : ∀ t, t < k → stands step rise R L T (QQ.getD t []) f = 0) : firstBad step rise R L T QQ f = k := by
  unfold firstBad
  rw [if_pos h1]
  have : (List.range QQ.length).find? (fun k : Nat => decide (stands step rise R L T (QQ.getD k []) f ≠ 0)) = some k := by
    rw [List.find?_range_eq_some]
    exact ⟨by simpa using hp, by simpa using hk, fun t ht => by simpa using hn t ht⟩
  rw [this]

theorem firstBad_none {step rise : Int} {R : List (List Int)} {L : List I3} {T : List I2} {QQ : List (List I3)} {f : I2} (h1 : QQ.length ≤ 20) (hn : ∀ t, t < QQ.length → stands step rise R L T (QQ.getD t []) f = 0) : firstBad step rise R L T QQ f = -1 := by
  unfold firstBad
  rw [if_pos h1]
  have : (List.range QQ.length).find? (fun k : Nat => decide (stands step rise R L T (QQ.getD k []) f ≠ 0)) = none := by
    rw [List.find?_eq_none]
    intro t ht
    simpa using hn t (by simpa using ht)
  rw [this]

theorem firstBad_long {step rise : Int} {R : List (List Int)} {L : List I3} {T : List I2} {QQ : List (List I3)} {f : I2} (h1 : ¬ QQ.length ≤ 20) : firstBad step rise R L T QQ f = -2 := by simp [firstBad, h1]

set_option maxHeartbeats 1600000 in
theorem implFirstBad_any (step rise : Int) (v0 : Value) (R : List (List Int)) (v1 : Value) (L : List I3) (v2' : Value) (T : List I2) (v3' : Value) (QQ : List (List I3)) (x4a x4b : Int) (w : World) (h0 : RowsIn w v0 R) (h1 : R3 w v1 L) (h2 : R2 w v2' T) (h3 : RR3 w v3' QQ) :
    Calls Try.prog 23 #[hullV step rise v0, v1, v2', v3', v2 (x4a, x4b)] w fun e w' => e = .returned (.int .i64 (firstBad step rise R L T QQ (x4a, x4b))) ∧ Below w.heap.size w w' := by
  have HV0 := hide h0
  have HV1 := hide h1
  have HV2 := hide h2
  obtain ⟨ao0, cap0, rfl, hl0, hm0, hc0⟩ := h0
  obtain ⟨ao1, cap1, rfl, hl1, hm1, hc1⟩ := h1
  obtain ⟨ao2, cap2, rfl, hl2, hm2, hc2⟩ := h2
  obtain ⟨ao3, cap3, rfl, hl3, hm3, hc3⟩ := h3
  have HC := hide hc3
  unfold maxLen at hm3
  clear hc0 hc1 hc2 hc3 hl0 hl1 hl2 hm0 hm1 hm2
  unfold hullV v2
  obtain ⟨W0, eW0⟩ : ∃ W, W = (w.alloc (.cells #[.int .i64 step, .int .i64 rise, .slice ao0 R.length cap0] 26)).alloc (.cells #[.int .i64 x4a, .int .i64 x4b] 44) := ⟨_, rfl⟩
  have HW0 : Hid (Below w.heap.size w W0) := by show Below _ _ _; rw [eW0]; exact Below.step (Below.alloc1 _ _) (Below.alloc1 _ _)
  have HB0 : Hid (OwnV W0 w.heap.size [.int .i64 step, .int .i64 rise, .slice ao0 R.length cap0]) := by show OwnV _ _ _; rw [eW0]; exact OwnV.alloc (ownV_alloc w #[.int .i64 step, .int .i64 rise, .slice ao0 R.length cap0] _) _
  have HF0 : Hid (OwnV W0 (w.heap.size + 1) [.int .i64 x4a, .int .i64 x4b]) := by
    show OwnV _ _ _
    rw [eW0]
    have h := ownV_alloc (w.alloc (.cells #[.int .i64 step, .int .i64 rise, .slice ao0 R.length cap0] 26)) #[.int .i64 x4a, .int .i64 x4b] 44
    simp only [World.size_alloc] at h
    exact h
  by_cases hlen : QQ.length ≤ 20
  case neg =>
    have HK := hide (firstBad_long (step := step) (rise := rise) (R := R) (L := L) (T := T) (f := (x4a, x4b)) hlen)
    go_enter Try.func23, Try.ntmps23
    go_wp2
    go_ret
    exact ⟨ret_int (unhide HK).symm, by rw [← eW0]; exact unhide HW0⟩
  go_enter Try.func23, Try.ntmps23
  go_wp2
  rw [← eW0]
  clear eW0
  go_loopg [18] QQ.length (fun g i wr => Below W0.heap.size W0 wr ∧ ∃ k : Nat, k ≤ QQ.length ∧ g = QQ.length - k ∧ i = .int .i64 k ∧ Hid (∀ t, t < k → stands step rise R L T (QQ.getD t []) (x4a, x4b) = 0))
  case atStart => exact ⟨Below.refl _ _, 0, Nat.zero_le _, rfl, rfl, fun r hr => by omega⟩
  case round =>
    obtain ⟨hb, k, hk, rfl, rfl, HD⟩ := hrel
    have HW := hide (Below.step (unhide HW0) hb)
    have HB := hide (OwnV.step (unhide HB0) hb)
    have HF := hide (OwnV.step (unhide HF0) hb)
    have HH := hide hb
    clear hb
    by_cases hkn : k < QQ.length
    · obtain ⟨b, o, ar, m, cr, rfl, hcell, hrow, EM, hm0'⟩ := recsAt (unhide HC) hkn
      have q1 := wcell3 hcell (unhide HW)
      have c0 := OwnV.cell (unhide HB) (i := 0) rfl
      have c1 := OwnV.cell (unhide HB) (i := 1) rfl
      have c2 := OwnV.cell (unhide HB) (i := 2) rfl
      have d0 := OwnV.cell (unhide HF) (i := 0) rfl
      have d1 := OwnV.cell (unhide HF) (i := 1) rfl
      have HR := hide (implStands_any step rise _ R _ L _ T _ (QQ.getD k []) x4a x4b wr ((unhide HV0).below (unhide HW)) ((unhide HV1).below (unhide HW)) ((unhide HV2).below (unhide HW)) (hrow.below (unhide HW)))
      clear hcell hrow
      go_wp2_with fail
      refine (unhide HR).mono ?_
      rintro e w1 ⟨rfl, hb⟩
      have HW1 := hide (Below.step (unhide HW) hb)
      have HH1 := hide (Below.step (unhide HH) hb)
      clear hb c0 c1 c2 d0 d1 HR q1
      obtain ⟨s, es⟩ : ∃ s, s = stands step rise R L T (QQ.getD k []) (x4a, x4b) := ⟨_, rfl⟩
      rw [← es]
      have ES := hide es.symm
      clear es
      by_cases hs : s = 0
      · subst hs
        go_wp2
        go_roundg (QQ.length - (k + 1))
        case measure => omega
        case rel => exact ⟨unhide HH1, k + 1, by omega, rfl, by go_num, fun t ht => by
          by_cases e : t = k
          · subst e; exact unhide ES
          · exact HD.out t (by omega)⟩
      · have HK : Hid (firstBad step rise R L T QQ (x4a, x4b) = k) := firstBad_some hlen hkn (by rw [unhide ES]; exact hs) HD.out
        have zs : (s == 0) = false := by simp [hs]
        go_wp2
        go_ret
        exact ⟨ret_int (unhide HK).symm, unhide HW1⟩
    · have HK : Hid (firstBad step rise R L T QQ (x4a, x4b) = -1) := firstBad_none hlen (fun t ht => HD.out t (by omega))
      go_wp2
      go_ret
      exact ⟨ret_int (unhide HK).symm, unhide HW⟩

set_option maxHeartbeats 1600000 in
theorem specFirstBad_any (step rise : Int) (v0 : Value) (R : List (List Int)) (v1 : Value) (L : List I3) (v2' : Value) (T : List I2) (v3' : Value) (QQ : List (List I3)) (x4a x4b : Int) (w : World) (h0 : RowsIn w v0 R) (h1 : R3 w v1 L) (h2 : R2 w v2' T) (h3 : RR3 w v3' QQ) :
    Calls Try.prog 45 #[hullV step rise v0, v1, v2', v3', v2 (x4a, x4b)] w fun e w' => e = .returned (.int .i64 (firstBad step rise R L T QQ (x4a, x4b))) ∧ Below w.heap.size w w' := by
  have HV0 := hide h0
  have HV1 := hide h1
  have HV2 := hide h2
  obtain ⟨ao0, cap0, rfl, hl0, hm0, hc0⟩ := h0
  obtain ⟨ao1, cap1, rfl, hl1, hm1, hc1⟩ := h1
  obtain ⟨ao2, cap2, rfl, hl2, hm2, hc2⟩ := h2
  obtain ⟨ao3, cap3, rfl, hl3, hm3, hc3⟩ := h3
  have HC := hide hc3
  unfold maxLen at hm3
  clear hc0 hc1 hc2 hc3 hl0 hl1 hl2 hm0 hm1 hm2
  unfold hullV v2
  obtain ⟨W0, eW0⟩ : ∃ W, W = (w.alloc (.cells #[.int .i64 step, .int .i64 rise, .slice ao0 R.length cap0] 26)).alloc (.cells #[.int .i64 x4a, .int .i64 x4b] 44) := ⟨_, rfl⟩
  have HW0 : Hid (Below w.heap.size w W0) := by show Below _ _ _; rw [eW0]; exact Below.step (Below.alloc1 _ _) (Below.alloc1 _ _)
  have HB0 : Hid (OwnV W0 w.heap.size [.int .i64 step, .int .i64 rise, .slice ao0 R.length cap0]) := by show OwnV _ _ _; rw [eW0]; exact OwnV.alloc (ownV_alloc w #[.int .i64 step, .int .i64 rise, .slice ao0 R.length cap0] _) _
  have HF0 : Hid (OwnV W0 (w.heap.size + 1) [.int .i64 x4a, .int .i64 x4b]) := by
    show OwnV _ _ _
    rw [eW0]
    have h := ownV_alloc (w.alloc (.cells #[.int .i64 step, .int .i64 rise, .slice ao0 R.length cap0] 26)) #[.int .i64 x4a, .int .i64 x4b] 44
    simp only [World.size_alloc] at h
    exact h
  by_cases hlen : QQ.length ≤ 20
  case neg =>
    have HK := hide (firstBad_long (step := step) (rise := rise) (R := R) (L := L) (T := T) (f := (x4a, x4b)) hlen)
    go_enter Try.func45, Try.ntmps45
    go_wp2
    go_ret
    exact ⟨ret_int (unhide HK).symm, by rw [← eW0]; exact unhide HW0⟩
  go_enter Try.func45, Try.ntmps45
  go_wp2
  rw [← eW0]
  clear eW0
  go_loopg [11] QQ.length (fun g i wr => Below W0.heap.size W0 wr ∧ ∃ k : Nat, k ≤ QQ.length ∧ g = QQ.length - k ∧ i = .int .i64 k ∧ Hid (∀ t, t < k → stands step rise R L T (QQ.getD t []) (x4a, x4b) = 0))
  case atStart => exact ⟨Below.refl _ _, 0, Nat.zero_le _, rfl, rfl, fun r hr => by omega⟩
  case round =>
    obtain ⟨hb, k, hk, rfl, rfl, HD⟩ := hrel
    have HW := hide (Below.step (unhide HW0) hb)
    have HB := hide (OwnV.step (unhide HB0) hb)
    have HF := hide (OwnV.step (unhide HF0) hb)
    have HH := hide hb
    clear hb
    by_cases hkn : k < QQ.length
    · obtain ⟨b, o, ar, m, cr, rfl, hcell, hrow, EM, hm0'⟩ := recsAt (unhide HC) hkn
      have q1 := wcell3 hcell (unhide HW)
      have r0 := fun x : Gr wr => gr_cell (OwnV.cell (unhide HB) (i := 0) rfl) x
      have r1 := fun x : Gr wr => gr_cell (OwnV.cell (unhide HB) (i := 1) rfl) x
      have r2 := fun x : Gr wr => gr_cell (OwnV.cell (unhide HB) (i := 2) rfl) x
      have r3 := fun x : Gr wr => gr_cell (OwnV.cell (unhide HF) (i := 0) rfl) x
      have r4 := fun x : Gr wr => gr_cell (OwnV.cell (unhide HF) (i := 1) rfl) x
      have r5 := fun x : Gr wr => gr_cell q1 x
      have S1 := hide fun x : Gr wr => specStands_any step rise _ R _ L _ T _ (QQ.getD k []) x4a x4b x.val (((unhide HV0).below (unhide HW)).below x.ok) (((unhide HV1).below (unhide HW)).below x.ok) (((unhide HV2).below (unhide HW)).below x.ok) ((hrow.below (unhide HW)).below x.ok)
      obtain ⟨s, es⟩ : ∃ s, s = stands step rise R L T (QQ.getD k []) (x4a, x4b) := ⟨_, rfl⟩
      rw [← es] at S1
      have ES := hide es.symm
      have gsome := gr_some wr
      clear es hcell hrow q1
      go_wp2
      refine wp_region_grown (by kernel_rfl) (by kernel_rfl) ?_
      repeat (go_big_quiet_step (fail))
      go_big_quiet_want
      go_big_quiet_op
      go_big_quiet_call (exact calls_grown (unhide S1 _))
      repeat (go_big_quiet_step (fail))
      refine wpQuiet_nil ?_
      intro w1 hw1
      obtain ⟨z', hz⟩ := hw1
      have hb1 : Below wr.heap.size wr w1 := hz ▸ z'.ok
      have HW1 := hide (Below.step (unhide HW) hb1)
      have HH1 := hide (Below.step (unhide HH) hb1)
      clear hz gsome r0 r1 r2 r3 r4 r5 S1 hb1 z'
      by_cases hs : s = 0
      · subst hs
        go_wp2
        go_roundg (QQ.length - (k + 1))
        case measure => omega
        case rel => exact ⟨unhide HH1, k + 1, by omega, rfl, by go_num, fun t ht => by
          by_cases e : t = k
          · subst e; exact unhide ES
          · exact HD.out t (by omega)⟩
      · have HK : Hid (firstBad step rise R L T QQ (x4a, x4b) = k) := firstBad_some hlen hkn (by rw [unhide ES]; exact hs) HD.out
        have zs : (s == 0) = false := by simp [hs]
        go_wp2
        go_ret
        exact ⟨ret_int (unhide HK).symm, unhide HW1⟩
    · have HK : Hid (firstBad step rise R L T QQ (x4a, x4b) = -1) := firstBad_none hlen (fun t ht => HD.out t (by omega))
      go_wp2
      go_ret
      exact ⟨ret_int (unhide HK).symm, unhide HW⟩

end Go.Proofs.Yticcjdcglfiggaa

/- The stable sort's symMerge where one side has one element. Written by wip/mkly.py. -/
import Derived.Test.YtogoknldhimgfaaBvB
namespace Go.Proofs.Ytogoknldhimgfaa
open Go.RowKit

set_option maxRecDepth 10000 in
set_option maxHeartbeats 8000000 in
theorem symFirst_any (g gb gr cb n cap a m b : Nat) (r D : List Int) (w : World) (hk : Keys w g gb gr cb r) (h : OwnV w g (ints D)) (hn : D.length = n) (ham : a < m) (hmb : m < b) (hbn : b ≤ n) (hn1 : n ≤ 1000) (hc : n ≤ cap) (hcm : cap ≤ 1048576) (hv : Vals r D) (hM : Mrg r D a m b) (h1 : m = a + 1) :
    Calls Try.prog 92 #[.slice (some ⟨g, 0, none⟩) n cap, .int .i64 (a : Int), .int .i64 (m : Int), .int .i64 (b : Int), cmpF gb] w (RowAns g w (Mgd r D a b)) := by
  have HKY := hide hk
  have HO := hide h
  have HN := hide hn
  have HV := hide hv
  have HM := hide hM
  clear hk h hn hv hM
  have e0 : IntKind.i64.wrap ((m : Int) - (a : Int)) = 1 := by rw [IntKind.wrap_i64]; omega
  have H1 := hide h1
  have hma : a + 1 ≤ m := by omega
  have hma' : m ≤ a + 1 := by omega
  clear h1
  have HL0 : Hid (D.length = n) := HN
  unfold cmpF
  go_enter Try.func92, Try.ntmps92
  go_wp2
  go_loopg [10, 11] (b - m) (fun gg iv jv wr => ∃ (i j : Nat), gg = j - i ∧ iv = .int .i64 (i : Int) ∧ jv = .int .i64 (j : Int) ∧ m ≤ i ∧ i ≤ j ∧ j ≤ b ∧ Hid (OwnV wr g (ints D)) ∧ Hid ((∀ q, a + 1 ≤ q → q < i → ky r (ix D a) < ky r (ix D q)) ∧ ∀ q, j ≤ q → q < b → ky r (ix D q) ≤ ky r (ix D a)) ∧ Hid (Kept (fun b => b = g) w wr))
  case atStart => exact ⟨m, b, rfl, rfl, rfl, Nat.le_refl _, by omega, Nat.le_refl _, HO, ⟨fun q h1 h2 => by omega, fun q h1 h2 => by omega⟩, Kept.refl _ _⟩
  case round =>
    clear HO e0
    obtain ⟨i, j, rfl, rfl, rfl, hi1, hij, hj1, HO, HB, HK⟩ := hrel
    by_cases hlt : i < j
    · have hltI : (i : Int) < j := by omega
      obtain ⟨c, ec⟩ : ∃ c : Nat, c = (i + j) / 2 := ⟨_, rfl⟩
      have wa : IntKind.i64.wrap ((i : Int) + (j : Int)) = ((i + j : Nat) : Int) := by rw [IntKind.wrap_i64]; omega
      have wb : IntKind.u64.wrap (((i + j : Nat) : Int)) = ((i + j : Nat) : Int) := by rw [IntKind.wrap_u64]; omega
      have wc1 : ((i + j : Nat) : Int) >>> (1 : Nat) = (c : Int) := by rw [Int.shiftRight_eq_div_pow]; omega
      have wc2 : ((i + j : Nat) : Int) / 2 = (c : Int) := by omega
      have wc3 : (i + j) / 2 = c := by omega
      have wc4 : ((i : Int) + (j : Int)) / 2 = (c : Int) := by omega
      have wd : IntKind.i64.wrap (c : Int) = (c : Int) := by rw [IntKind.wrap_i64]; omega
      have we : IntKind.u64.wrap (c : Int) = (c : Int) := by rw [IntKind.wrap_u64]; omega
      have hc1 : i ≤ c := by omega
      have hc2 : c < j := by omega
      have hcI : (c : Int) < n := by omega
      have haI : (a : Int) < n := by omega
      have w9 : IntKind.i64.wrap ((c : Int) + 1) = ((c + 1 : Nat) : Int) := by rw [IntKind.wrap_i64]; omega
      clear ec
      have cc0 := (unhide HO).cell (ints_atA (M := D) (p := c) (by rw [unhide HN]; omega))
      have cc := fun x' : Gr wr => gr_cell cc0 x'
      clear cc0
      have ca0 := (unhide HO).cell (ints_atA (M := D) (p := a) (by rw [unhide HN]; omega))
      have ca := fun x' : Gr wr => gr_cell ca0 x'
      clear ca0
      have HC := cmpF_gr ((unhide HKY).kept (unhide HK)) ((unhide HV).at (k := c) (by rw [unhide HN]; omega)) ((unhide HV).at (k := a) (by rw [unhide HN]; omega))
      have hz := cmpI_neg (x := ky r (ix D a)) (y := ky r (ix D c))
      by_cases hc0 : ky r (ix D a) < ky r (ix D c)
      · have dz : decide (cmpI (ky r (ix D a)) (ky r (ix D c)) < 0) = true := by simpa using hz.2 hc0
        have HB2 : Hid ((∀ q, a + 1 ≤ q → q < c + 1 → ky r (ix D a) < ky r (ix D q)) ∧ ∀ q, j ≤ q → q < b → ky r (ix D q) ≤ ky r (ix D a)) := ⟨fun q q1 q2 => by have := (unhide HM).right.le (i := q) (j := c) (by omega) (by omega) (by omega); omega, (unhide HB).2⟩
        clear hz hc0 HB
        generalize cmpI (ky r (ix D a)) (ky r (ix D c)) = z at *
        generalize ix D c = vc at *
        generalize ix D a = va at cc ca HC
        have gsome := gr_some wr
        go_wp2_with fail
        refine wp_region_grown (by kernel_rfl) (by kernel_rfl) ?_
        repeat (go_big_quiet_step (fail))
        go_big_quiet_want
        go_big_quiet_op
        go_big_quiet_call (exact calls_grown (unhide HC _))
        repeat (go_big_quiet_step (fail))
        refine wpQuiet_nil ?_
        intro w1 hw1
        obtain ⟨z', hz⟩ := hw1
        have hb : Below wr.heap.size wr w1 := hz ▸ z'.ok
        clear hz z' gsome
        have HO2 := hide ((unhide HO).step hb)
        have HK2 := hide ((unhide HK).trans (kept_of_below hb))
        clear hb HC cc ca HO HK
        go_wp2
        go_roundg (j - (c + 1))
        case measure => omega
        case rel => exact ⟨c + 1, j, rfl, rfl, rfl, by omega, by omega, hj1, HO2, HB2, HK2⟩
      · have dz : decide (cmpI (ky r (ix D a)) (ky r (ix D c)) < 0) = false := by simpa using fun h => hc0 (hz.1 h)
        have HB2 : Hid ((∀ q, a + 1 ≤ q → q < i → ky r (ix D a) < ky r (ix D q)) ∧ ∀ q, c ≤ q → q < b → ky r (ix D q) ≤ ky r (ix D a)) := ⟨(unhide HB).1, fun q q1 q2 => by have := (unhide HM).right.le (i := c) (j := q) (by omega) (by omega) (by omega); omega⟩
        clear hz hc0 HB
        generalize cmpI (ky r (ix D a)) (ky r (ix D c)) = z at *
        generalize ix D c = vc at *
        generalize ix D a = va at cc ca HC
        have gsome := gr_some wr
        go_wp2_with fail
        refine wp_region_grown (by kernel_rfl) (by kernel_rfl) ?_
        repeat (go_big_quiet_step (fail))
        go_big_quiet_want
        go_big_quiet_op
        go_big_quiet_call (exact calls_grown (unhide HC _))
        repeat (go_big_quiet_step (fail))
        refine wpQuiet_nil ?_
        intro w1 hw1
        obtain ⟨z', hz⟩ := hw1
        have hb : Below wr.heap.size wr w1 := hz ▸ z'.ok
        clear hz z' gsome
        have HO2 := hide ((unhide HO).step hb)
        have HK2 := hide ((unhide HK).trans (kept_of_below hb))
        clear hb HC cc ca HO HK
        go_wp2
        go_roundg (c - i)
        case measure => omega
        case rel => exact ⟨i, c, rfl, rfl, rfl, hi1, by omega, by omega, HO2, HB2, HK2⟩
    · obtain rfl : i = j := by omega
      have hltI : ¬ (i : Int) < i := by omega
      have w1 : IntKind.i64.wrap ((i : Int) - 1) = (i : Int) - 1 := by rw [IntKind.wrap_i64]; omega
      have hiI : (i : Int) ≤ b := by omega
      generalize wr = wo at *
      go_wp2
      go_loopg [13] (i - a) (fun gg kv wr => ∃ (k : Nat) (E : List Int), gg = i - k ∧ kv = .int .i64 (k : Int) ∧ a ≤ k ∧ k + 1 ≤ i ∧ Hid (OwnV wr g (ints E)) ∧ Hid (MvU D a b k E) ∧ Hid (Kept (fun b => b = g) w wr))
      case atStart => exact ⟨a, D, rfl, rfl, Nat.le_refl _, by omega, HO, MvU.start _ _ _, HK⟩
      case round =>
        clear HO HK
        obtain ⟨k, E, rfl, rfl, hk1, hk2, HO, HE, HK⟩ := hrel
        have HL : Hid (E.length = n) := (unhide HE).seg.len.trans (unhide HN)
        by_cases hki : k + 1 < i
        · have hkiI : (k : Int) < (i : Int) - 1 := by omega
          obtain ⟨q, eq⟩ : ∃ q : Nat, q = k + 1 := ⟨_, rfl⟩
          have wq : IntKind.i64.wrap ((k : Int) + 1) = (q : Int) := by rw [IntKind.wrap_i64]; omega
          have hqI : (q : Int) < n := by omega
          have hkI : (k : Int) < n := by omega
          have hqn : q < n := by omega
          have n1 : ¬ k = q := by omega
          have n2 : ¬ q = k := by omega
          have HE2 : Hid (MvU D a b q (swp E k q)) := by rw [eq]; exact (unhide HE).next hk1 (by omega) (by rw [unhide HN]; exact hbn)
          have hq1 : q + 1 ≤ i := by omega
          have hq2 : a ≤ q := by omega
          have hq3 : k < q := by omega
          clear eq HE
          have cp := (unhide HO).cell (ints_atA (M := E) (p := k) (by rw [unhide HL]; omega))
          have cq := (unhide HO).cell (ints_atA (M := E) (p := q) (by rw [unhide HL]; omega))
          have fz := (unhide HO).frozen
          have HN2 := hide (own_swp (unhide HO) (i := k) (j := q) (by rw [unhide HL]; omega) (by rw [unhide HL]; omega))
          have HK2 := hide (kept_swp (i := k) (j := q) (x := .int .i64 (ix E q)) (y := .int .i64 (ix E k)) (unhide HK))
          generalize swp E k q = E2 at *
          generalize ix E k = vp at *
          generalize ix E q = vq at *
          clear HO HK HL
          go_wp2_with fail
          go_region
          all_goals
            go_wp2
            go_roundg (i - q)
            case measure => omega
            case rel => first | exact ⟨q, E2, rfl, rfl, hq2, hq1, HN2, HE2, HK2⟩ | exact ⟨q, E2, rfl, rfl, hq2, hq1, OwnV.step (unhide HN2) (Below.refl _ _).drew, HE2, kept_drew (unhide HK2)⟩
        · have hkiI : ¬ (k : Int) < (i : Int) - 1 := by omega
          have HR : Hid (Mgd r D a b E) := by
            have hM := unhide HM
            rw [unhide H1] at hM
            have hk3 : k = i - 1 := by omega
            have hE := unhide HE
            rw [hk3] at hE
            exact mrg_first hM (by omega) hj1 (unhide HB).1 (fun q x y => by have := (unhide HB).2 q x y; omega) hE.seg hE.done hE.me (fun p hp => hE.rest p (by omega))
          clear HE HB
          go_wp2
          (first | go_end0 | refine bodyPost_ret (v := .tuple #[]) (by simp [results, Try.results92, go_sem]) rfl ?_)
          exact rowAns_mk (unhide HO) (unhide HR) (unhide HK)

set_option maxRecDepth 10000 in
set_option maxHeartbeats 8000000 in
theorem symLast_any (g gb gr cb n cap a m b : Nat) (r D : List Int) (w : World) (hk : Keys w g gb gr cb r) (h : OwnV w g (ints D)) (hn : D.length = n) (ham : a < m) (hmb : m < b) (hbn : b ≤ n) (hn1 : n ≤ 1000) (hc : n ≤ cap) (hcm : cap ≤ 1048576) (hv : Vals r D) (hM : Mrg r D a m b) (h0 : m ≠ a + 1) (h1 : b = m + 1) :
    Calls Try.prog 92 #[.slice (some ⟨g, 0, none⟩) n cap, .int .i64 (a : Int), .int .i64 (m : Int), .int .i64 (b : Int), cmpF gb] w (RowAns g w (Mgd r D a b)) := by
  have HKY := hide hk
  have HO := hide h
  have HN := hide hn
  have HV := hide hv
  have HM := hide hM
  clear hk h hn hv hM
  obtain ⟨l, el⟩ : ∃ l : Nat, l = m - a := ⟨_, rfl⟩
  have e0 : IntKind.i64.wrap ((m : Int) - (a : Int)) = (l : Int) := by rw [IntKind.wrap_i64]; omega
  have e1 : ((l : Int) == 1) = false := by simp; omega
  have e2 : IntKind.i64.wrap ((b : Int) - (m : Int)) = 1 := by rw [IntKind.wrap_i64]; omega
  have H1 := hide h1
  have hma : m + 1 ≤ b := by omega
  have hma' : b ≤ m + 1 := by omega
  clear h1 h0 el
  unfold cmpF
  go_enter Try.func92, Try.ntmps92
  go_wp2
  go_loopg [14, 15] (m - a) (fun gg iv jv wr => ∃ (i j : Nat), gg = j - i ∧ iv = .int .i64 (i : Int) ∧ jv = .int .i64 (j : Int) ∧ a ≤ i ∧ i ≤ j ∧ j ≤ m ∧ Hid (OwnV wr g (ints D)) ∧ Hid ((∀ q, a ≤ q → q < i → ky r (ix D m) ≤ ky r (ix D q)) ∧ ∀ q, j ≤ q → q < m → ky r (ix D q) < ky r (ix D m)) ∧ Hid (Kept (fun b => b = g) w wr))
  case atStart => exact ⟨a, m, rfl, rfl, rfl, Nat.le_refl _, by omega, Nat.le_refl _, HO, ⟨fun q h1 h2 => by omega, fun q h1 h2 => by omega⟩, Kept.refl _ _⟩
  case round =>
    clear HO e0 e1 e2
    obtain ⟨i, j, rfl, rfl, rfl, hi1, hij, hj1, HO, HB, HK⟩ := hrel
    by_cases hlt : i < j
    · have hltI : (i : Int) < j := by omega
      obtain ⟨c, ec⟩ : ∃ c : Nat, c = (i + j) / 2 := ⟨_, rfl⟩
      have wa : IntKind.i64.wrap ((i : Int) + (j : Int)) = ((i + j : Nat) : Int) := by rw [IntKind.wrap_i64]; omega
      have wb : IntKind.u64.wrap (((i + j : Nat) : Int)) = ((i + j : Nat) : Int) := by rw [IntKind.wrap_u64]; omega
      have wc1 : ((i + j : Nat) : Int) >>> (1 : Nat) = (c : Int) := by rw [Int.shiftRight_eq_div_pow]; omega
      have wc2 : ((i + j : Nat) : Int) / 2 = (c : Int) := by omega
      have wc3 : (i + j) / 2 = c := by omega
      have wc4 : ((i : Int) + (j : Int)) / 2 = (c : Int) := by omega
      have wd : IntKind.i64.wrap (c : Int) = (c : Int) := by rw [IntKind.wrap_i64]; omega
      have we : IntKind.u64.wrap (c : Int) = (c : Int) := by rw [IntKind.wrap_u64]; omega
      have hc1 : i ≤ c := by omega
      have hc2 : c < j := by omega
      have hcI : (c : Int) < n := by omega
      have hmI : (m : Int) < n := by omega
      have w9 : IntKind.i64.wrap ((c : Int) + 1) = ((c + 1 : Nat) : Int) := by rw [IntKind.wrap_i64]; omega
      clear ec
      have cc0 := (unhide HO).cell (ints_atA (M := D) (p := c) (by rw [unhide HN]; omega))
      have cc := fun x' : Gr wr => gr_cell cc0 x'
      clear cc0
      have ca0 := (unhide HO).cell (ints_atA (M := D) (p := m) (by rw [unhide HN]; omega))
      have ca := fun x' : Gr wr => gr_cell ca0 x'
      clear ca0
      have HC := cmpF_gr ((unhide HKY).kept (unhide HK)) ((unhide HV).at (k := m) (by rw [unhide HN]; omega)) ((unhide HV).at (k := c) (by rw [unhide HN]; omega))
      have hz := cmpI_neg (x := ky r (ix D c)) (y := ky r (ix D m))
      by_cases hc0 : ky r (ix D c) < ky r (ix D m)
      · have dz : decide (cmpI (ky r (ix D c)) (ky r (ix D m)) < 0) = true := by simpa using hz.2 hc0
        have HB2 : Hid ((∀ q, a ≤ q → q < i → ky r (ix D m) ≤ ky r (ix D q)) ∧ ∀ q, c ≤ q → q < m → ky r (ix D q) < ky r (ix D m)) := ⟨(unhide HB).1, fun q q1 q2 => by have := (unhide HM).left.le (i := c) (j := q) (by omega) (by omega) (by omega); omega⟩
        clear hz hc0 HB
        generalize cmpI (ky r (ix D c)) (ky r (ix D m)) = z at *
        generalize ix D c = vc at *
        generalize ix D m = va at cc ca HC
        have gsome := gr_some wr
        go_wp2_with fail
        refine wp_region_grown (by kernel_rfl) (by kernel_rfl) ?_
        repeat (go_big_quiet_step (fail))
        go_big_quiet_want
        go_big_quiet_op
        go_big_quiet_call (exact calls_grown (unhide HC _))
        repeat (go_big_quiet_step (fail))
        refine wpQuiet_nil ?_
        intro w1 hw1
        obtain ⟨z', hz⟩ := hw1
        have hb : Below wr.heap.size wr w1 := hz ▸ z'.ok
        clear hz z' gsome
        have HO2 := hide ((unhide HO).step hb)
        have HK2 := hide ((unhide HK).trans (kept_of_below hb))
        clear hb HC cc ca HO HK
        go_wp2
        go_roundg (c - i)
        case measure => omega
        case rel => exact ⟨i, c, rfl, rfl, rfl, hi1, by omega, by omega, HO2, HB2, HK2⟩
      · have dz : decide (cmpI (ky r (ix D c)) (ky r (ix D m)) < 0) = false := by simpa using fun h => hc0 (hz.1 h)
        have HB2 : Hid ((∀ q, a ≤ q → q < c + 1 → ky r (ix D m) ≤ ky r (ix D q)) ∧ ∀ q, j ≤ q → q < m → ky r (ix D q) < ky r (ix D m)) := ⟨fun q q1 q2 => by have := (unhide HM).left.le (i := q) (j := c) (by omega) (by omega) (by omega); omega, (unhide HB).2⟩
        clear hz hc0 HB
        generalize cmpI (ky r (ix D c)) (ky r (ix D m)) = z at *
        generalize ix D c = vc at *
        generalize ix D m = va at cc ca HC
        have gsome := gr_some wr
        go_wp2_with fail
        refine wp_region_grown (by kernel_rfl) (by kernel_rfl) ?_
        repeat (go_big_quiet_step (fail))
        go_big_quiet_want
        go_big_quiet_op
        go_big_quiet_call (exact calls_grown (unhide HC _))
        repeat (go_big_quiet_step (fail))
        refine wpQuiet_nil ?_
        intro w1 hw1
        obtain ⟨z', hz⟩ := hw1
        have hb : Below wr.heap.size wr w1 := hz ▸ z'.ok
        clear hz z' gsome
        have HO2 := hide ((unhide HO).step hb)
        have HK2 := hide ((unhide HK).trans (kept_of_below hb))
        clear hb HC cc ca HO HK
        go_wp2
        go_roundg (j - (c + 1))
        case measure => omega
        case rel => exact ⟨c + 1, j, rfl, rfl, rfl, by omega, by omega, hj1, HO2, HB2, HK2⟩
    · obtain rfl : i = j := by omega
      have hltI : ¬ (i : Int) < i := by omega
      generalize wr = wo at *
      go_wp2
      go_loopg [17] (m - i) (fun gg kv wr => ∃ (k : Nat) (E : List Int), gg = k - i ∧ kv = .int .i64 (k : Int) ∧ i ≤ k ∧ k ≤ m ∧ Hid (OwnV wr g (ints E)) ∧ Hid (MvD D a m k E) ∧ Hid (Kept (fun b => b = g) w wr))
      case atStart => exact ⟨m, D, rfl, rfl, hj1, Nat.le_refl _, HO, MvD.start _ _ _, HK⟩
      case round =>
        clear HO HK
        obtain ⟨k, E, rfl, rfl, hk1, hk2, HO, HE, HK⟩ := hrel
        have HL : Hid (E.length = n) := (unhide HE).seg.len.trans (unhide HN)
        by_cases hki : i < k
        · have hkiI : (i : Int) < (k : Int) := by omega
          obtain ⟨q, eq⟩ : ∃ q : Nat, q = k - 1 := ⟨_, rfl⟩
          have wq : IntKind.i64.wrap ((k : Int) - 1) = (q : Int) := by rw [IntKind.wrap_i64]; omega
          have hqI : (q : Int) < n := by omega
          have hkI : (k : Int) < n := by omega
          have hqn : q < n := by omega
          have hkn : k < n := by omega
          have n1 : ¬ k = q := by omega
          have n2 : ¬ q = k := by omega
          have HE2 : Hid (MvD D a m q (swp E k q)) := by rw [eq]; exact (unhide HE).next (by omega) hk2 (by rw [unhide HN]; omega)
          have hq1 : q ≤ m := by omega
          have hq2 : i ≤ q := by omega
          have hq3 : q < k := by omega
          clear eq HE
          have cp := (unhide HO).cell (ints_atA (M := E) (p := k) (by rw [unhide HL]; omega))
          have cq := (unhide HO).cell (ints_atA (M := E) (p := q) (by rw [unhide HL]; omega))
          have fz := (unhide HO).frozen
          have HN2 := hide (own_swp (unhide HO) (i := k) (j := q) (by rw [unhide HL]; omega) (by rw [unhide HL]; omega))
          have HK2 := hide (kept_swp (i := k) (j := q) (x := .int .i64 (ix E q)) (y := .int .i64 (ix E k)) (unhide HK))
          generalize swp E k q = E2 at *
          generalize ix E k = vp at *
          generalize ix E q = vq at *
          clear HO HK HL
          go_wp2_with fail
          go_region
          all_goals
            go_wp2
            go_roundg (q - i)
            case measure => omega
            case rel => first | exact ⟨q, E2, rfl, rfl, hq2, hq1, HN2, HE2, HK2⟩ | exact ⟨q, E2, rfl, rfl, hq2, hq1, OwnV.step (unhide HN2) (Below.refl _ _).drew, HE2, kept_drew (unhide HK2)⟩
        · have hkiI : ¬ (i : Int) < (k : Int) := by omega
          have HR : Hid (Mgd r D a b E) := by
            have hM := unhide HM
            show Mgd r D a b E
            rw [unhide H1] at hM ⊢
            have hk3 : k = i := by omega
            have hE := unhide HE
            rw [hk3] at hE
            exact mrg_last hM hi1 hj1 (fun q x y => by have := (unhide HB).1 q x y; omega) (unhide HB).2 hE.seg hE.done hE.me hE.rest
          clear HE HB
          go_wp2
          (first | go_end0 | refine bodyPost_ret (v := .tuple #[]) (by simp [results, Try.results92, go_sem]) rfl ?_)
          exact rowAns_mk (unhide HO) (unhide HR) (unhide HK)

end Go.Proofs.Ytogoknldhimgfaa

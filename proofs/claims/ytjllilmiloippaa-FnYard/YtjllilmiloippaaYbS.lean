/- The specification's l18Turn, l18Order and Blocking. Written by wip/mkybs.py. -/
import Derived.Test.YtjllilmiloippaaYbM
import Derived.Test.YtjllilmiloippaaYaC2
namespace Go.Proofs.Ytjllilmiloippaa
open Go.RowKit

set_option maxHeartbeats 1600000 in
theorem l18Turn_any (v : Value) (L : List Int) (x : Int) (w : World) (h : IntsIn w v L) :
    Calls Try.prog 77 #[v, .int .i64 x] w fun e w' => e = .returned (.int .i64 (trn L x)) ∧ w = w' := by
  obtain ⟨ao, cap, rfl, hl, hm, hc⟩ := h
  unfold maxLen at hm
  have HC := hide hc
  clear hc
  go_enter Try.func77, Try.ntmps77
  go_wp2
  go_loopg [5] L.length (fun g i wr => w = wr ∧ ∃ k : Nat, k ≤ L.length ∧ g = L.length - k ∧ i = .int .i64 k ∧ Hid (∀ r, r < k → L.getD r 0 ≠ x))
  case atStart => exact ⟨rfl, 0, Nat.zero_le _, rfl, rfl, fun r hr => by omega⟩
  case round =>
    obtain ⟨rfl, k, hk, rfl, rfl, HN⟩ := hrel
    by_cases hkn : k < L.length
    · obtain ⟨b, o, rfl, hcell⟩ := unhide HC k hkn
      have hki : (k : Int) < L.length := by omega
      by_cases hx : L.getD k 0 = x
      · have HT : Hid (trn L x = (k : Int)) := by
          show _ = _
          unfold trn
          rw [idx_at hkn hx (unhide HN)]
        rw [hx] at hcell
        clear HN
        go_wp2
        go_ret
        exact ⟨by rw [unhide HT]; rfl, rfl⟩
      · have HN' : Hid (∀ r, r < k + 1 → L.getD r 0 ≠ x) := fun r hr => by
          by_cases e : r = k
          · rw [e]; exact hx
          · exact unhide HN r (by omega)
        clear HN
        generalize L.getD k 0 = y at *
        have d1 : (y == x) = false := by simp; omega
        go_wp2
        go_roundg (L.length - (k + 1))
        case measure => omega
        case rel => exact ⟨rfl, k + 1, by omega, rfl, by go_num, HN'⟩
    · have HF : Hid (trn L x = (L.length : Int)) := by
        show _ = _
        unfold trn
        have : ¬ x ∈ L := fun hc => by
          obtain ⟨i, hi, e⟩ := mem_at.1 hc
          exact unhide HN i (by omega) e
        rw [List.idxOf_eq_length this]
      have hki : ¬ (k : Int) < L.length := by omega
      clear HN
      go_wp2
      go_ret
      exact ⟨by rw [unhide HF]; rfl, rfl⟩

theorem l18Turn_b (v : Value) (L : List Int) (x : Int) (w : World) (h : IntsIn w v L) :
    Calls Try.prog 77 #[v, .int .i64 x] w fun e w' => e = .returned (.int .i64 (trn L x)) ∧ Below w.heap.size w w' := (l18Turn_any v L x w h).mono fun _ _ ⟨h1, h2⟩ => ⟨h1, by rw [← h2]; exact Below.refl _ _⟩

def ordB (L : List Int) (most : Int) : Bool := decide L.Nodup && decide ((L.length : Int) ≤ most)

set_option maxHeartbeats 1600000 in
theorem l18Order_any (v : Value) (L : List Int) (most : Int) (w : World) (h : IntsIn w v L) :
    Calls Try.prog 64 #[v, .int .i64 most] w fun e w' => e = .returned (.bool (ordB L most)) ∧ w = w' := by
  have HV := hide h
  have HQ := hide fun x => l18Turn_any v L x w h
  obtain ⟨ao, cap, rfl, hl, hm, hc⟩ := h
  unfold maxLen at hm
  have HC := hide hc
  clear hc
  obtain ⟨r, er⟩ : ∃ r, r = ordB L most := ⟨_, rfl⟩
  rw [← er]
  have ER := hide er
  clear er
  go_enter Try.func64, Try.ntmps64
  go_wp2
  go_loopg [5] L.length (fun g i wr => w = wr ∧ ∃ k : Nat, k ≤ L.length ∧ g = L.length - k ∧ i = .int .i64 k ∧ Hid (∀ i, i < k → L.idxOf (L.getD i 0) = i))
  case atStart => exact ⟨rfl, 0, Nat.zero_le _, rfl, rfl, fun r hr => by omega⟩
  case round =>
    obtain ⟨rfl, k, hk, rfl, rfl, HN⟩ := hrel
    by_cases hkn : k < L.length
    · obtain ⟨b, o, rfl, hcell⟩ := unhide HC k hkn
      have hki : (k : Int) < L.length := by omega
      have Q := hide (unhide HQ (L.getD k 0))
      obtain ⟨z, ez⟩ : ∃ z, z = trn L (L.getD k 0) := ⟨_, rfl⟩
      rw [← ez] at Q
      have EZ := hide ez
      clear ez
      by_cases hz : L.idxOf (L.getD k 0) = k
      · have ez2 : z = (k : Int) := by rw [unhide EZ, trn, hz]
        have HZ := hide hz
        subst ez2
        clear hz EZ
        obtain ⟨y, ey⟩ : ∃ y, L.getD k 0 = y := ⟨_, rfl⟩
        rw [ey] at hcell Q
        clear ey
        go_wp2_with fail
        refine (unhide Q).mono ?_
        rintro e w' ⟨rfl, rfl⟩
        go_wp2
        go_roundg (L.length - (k + 1))
        case measure => omega
        case rel => exact ⟨rfl, k + 1, by omega, rfl, by go_num, fun i hi => by
          by_cases e : i = k
          · subst e; exact unhide HZ
          · exact HN.out i (by omega)⟩
      · have hne : z ≠ (k : Int) := fun e => hz (by rw [unhide EZ, trn] at e; omega)
        have hzk : (z == (k : Int)) = false := by simpa using hne
        have e1 : r = false := by
          rw [unhide ER, ordB]
          have : ¬ L.Nodup := fun hn => hz (idx_self hkn hn)
          simp [this]
        subst e1
        clear hz EZ hne
        obtain ⟨y, ey⟩ : ∃ y, L.getD k 0 = y := ⟨_, rfl⟩
        rw [ey] at hcell Q
        clear ey
        go_wp2_with fail
        refine (unhide Q).mono ?_
        rintro e w' ⟨rfl, rfl⟩
        go_wp2
        go_ret
        exact ⟨rfl, rfl⟩
    · have hkk : k = L.length := by omega
      subst hkk
      have HE : Hid (r = decide ((L.length : Int) ≤ most)) := by
        show _ = _
        have : L.Nodup := nodup_idx HN.out
        rw [unhide ER, ordB]
        simp [this]
      by_cases hm2 : (L.length : Int) ≤ most
      · have e1 : r = true := by rw [unhide HE]; simpa using hm2
        subst e1
        go_wp2
        go_ret
        exact ⟨rfl, rfl⟩
      · have e1 : r = false := by rw [unhide HE]; simpa using hm2
        subst e1
        go_wp2
        go_ret
        exact ⟨rfl, rfl⟩

/-- Among the first i one goes out ahead of j. -/
structure OvB (O r : List Int) (i j : Nat) (b : Bool) : Prop where
  of : b = true ↔ ∃ q, q < i ∧ trn O (r.getD q 0) < trn O (r.getD j 0)
theorem ovB_zero (O r : List Int) (j : Nat) : OvB O r 0 j false := ⟨⟨fun h => (by cases h), fun ⟨q, hq, _⟩ => absurd hq (Nat.not_lt_zero q)⟩⟩
theorem ovB_true {O r : List Int} {i j : Nat} (h : OvB O r i j true) : OvB O r (i + 1) j true := ⟨⟨fun _ => (by
  obtain ⟨q, hq, hl⟩ := h.of.1 rfl
  exact ⟨q, by omega, hl⟩), fun _ => rfl⟩⟩
theorem ovB_step {O r : List Int} {i j : Nat} {ti tj : Int} (h : OvB O r i j false) (ei : trn O (r.getD i 0) = ti) (ej : trn O (r.getD j 0) = tj) : OvB O r (i + 1) j (decide (ti < tj)) := by
  refine ⟨?_⟩
  rw [decide_eq_true_eq]
  constructor
  · intro hlt
    exact ⟨i, by omega, by rw [ei, ej]; exact hlt⟩
  · rintro ⟨q, hq, hlt⟩
    by_cases e : q = i
    · subst e; rwa [ei, ej] at hlt
    · exfalso
      have := h.of.2 ⟨q, by omega, hlt⟩
      cases this

noncomputable def blkA (H : Int) (R : List (List Int)) (O : List Int) : Value := .tuple #[.int .i64 (blkV H R O).1, .bool (blkV H R O).2]
theorem blkA_bad {H : Int} {R : List (List Int)} {O : List Int} (h : ¬ (YOk H R ∧ O.length ≤ 72 ∧ O.Nodup)) : blkA H R O = .tuple #[.int .i64 0, .bool false] := by simp only [blkA, blkV, if_neg h]
theorem blkA_ok {H : Int} {R : List (List Int)} {O : List Int} (h : YOk H R ∧ O.length ≤ 72 ∧ O.Nodup) : blkA H R O = .tuple #[.int .i64 ((blkP (pilesOf O R) : Nat) : Int), .bool true] := by simp only [blkA, blkV, if_pos h]

theorem blk_bd {R : List (List Int)} (O : List Int) (hl : ∀ s, s < R.length → (R.getD s []).length ≤ 6) : ∀ k, k ≤ R.length → blkP ((pilesOf O R).take k) ≤ 6 * k
  | 0, _ => by simp [blkP]
  | q + 1, h => by
    have h1 := blkP_take (P := pilesOf O R) (k := q) (by rw [piles_len]; omega)
    have h2 := blk_bd O hl q (by omega)
    have h3 := inW_le ((pilesOf O R).getD q [])
    rw [piles_get O (show q < R.length by omega), turns_len] at h3
    have h4 := hl q (by omega)
    rw [piles_get O (show q < R.length by omega)] at h1
    omega

set_option maxRecDepth 10000 in
set_option maxHeartbeats 8000000 in
theorem specBlocking_a (H : Int) (v : Value) (R : List (List Int)) (ov : Value) (O : List Int) (w : World) (h : RowsIn w v R) (hO : IntsIn w ov O) :
    Calls Try.prog 39 #[yardV H v, ov] w fun e w' => e = .returned (blkA H R O) ∧ Below w.heap.size w w' := by
  obtain ⟨A, eA⟩ : ∃ A, A = blkA H R O := ⟨_, rfl⟩
  rw [← eA]
  have EA := hide eA
  clear eA
  have HVO := hide hO
  obtain ⟨oo, ocap, rfl, hol, hom, -⟩ := hO
  unfold maxLen at hom
  have HV := hide h
  obtain ⟨ao, cap, rfl, hc1, hc2⟩ := rows_cap h
  clear h
  have HB := hide (ownV_alloc w #[.int .i64 H, .slice ao R.length cap] 26)
  have HW := hide (Below.alloc1 w (.cells #[.int .i64 H, .slice ao R.length cap] 26))
  obtain ⟨g, eg⟩ : ∃ g, g = w.heap.size := ⟨_, rfl⟩
  have HYK := hide fun W (hb : Below w.heap.size w W) => specYardOk_any H (.slice ao R.length cap) R W ((unhide HV).below hb)
  have HYT : Hid (yardB H R = true → YOk H R) := fun h => of_decide_eq_true h
  have HYF : Hid (yardB H R = false → ¬ YOk H R) := fun h => of_decide_eq_false h
  generalize yardB H R = r at HYK HYT HYF
  have HOR := hide fun W (hb : Below w.heap.size w W) => l18Order_any _ O 72 W ((unhide HVO).below hb)
  obtain ⟨q, eq⟩ : ∃ q, q = ordB O 72 := ⟨_, rfl⟩
  rw [← eq] at HOR
  have EQ := hide eq
  clear eq
  unfold yardV at HYK ⊢
  go_enter Try.func39, Try.ntmps39
  go_upto_region 1 with (fail)
  obtain ⟨W0, eW⟩ : ∃ z, z = w.alloc (.cells #[.int .i64 H, .slice ao R.length cap] 26) := ⟨_, rfl⟩
  rw [← eW] at HB HW ⊢
  rw [← eg] at HB ⊢
  clear eW eg
  have b0 := (unhide HB).cell (i := 0) rfl
  have b1 := (unhide HB).cell (i := 1) rfl
  go_wp2_with fail
  refine (unhide HYK _ (unhide HW)).mono ?_
  rintro e w9 ⟨rfl, hb⟩
  replace HW := hide (Below.step (unhide HW) hb)
  replace HB := hide ((unhide HB).step hb)
  clear hb b0 b1 HYK
  have b1 := (unhide HB).cell (i := 1) rfl
  cases r with
  | false =>
    have HEV := hide ((unhide EA).trans (blkA_bad fun h => unhide HYF (by first | rfl | trivial) h.1))
    go_wp2
    go_ret2
    exact ⟨by rw [unhide HEV]; rfl, unhide HW⟩
  | true =>
  have hy := unhide HYT (by first | rfl | trivial)
  have HY := hide hy
  have hn1 := hy.n1
  have hn2 := hy.n2
  have HL6 : Hid (∀ s, s < R.length → (R.getD s []).length ≤ 6) := fun s hs => by have h1 := hy.low s hs; have h2 := hy.h2; omega
  clear hy HYT HYF
  cases q with
  | false =>
    have HEV := hide ((unhide EA).trans (blkA_bad fun h => by
      have h1 := unhide EQ
      have h2 : (O.length : Int) ≤ 72 := by have := h.2.1; omega
      simp [ordB, h.2.2, h2] at h1))
    go_wp2_with fail
    refine (unhide HOR _ (unhide HW)).mono ?_
    rintro e w8 ⟨rfl, rfl⟩
    go_wp2
    go_ret2
    exact ⟨by rw [unhide HEV]; rfl, unhide HW⟩
  | true =>
  have HEV := hide ((unhide EA).trans (blkA_ok ⟨unhide HY, by
    have h1 := unhide EQ
    simp [ordB] at h1
    omega, by
    have h1 := unhide EQ
    simp [ordB] at h1
    exact h1.1⟩))
  go_wp2_with fail
  refine (unhide HOR _ (unhide HW)).mono ?_
  rintro e w8 ⟨rfl, rfl⟩
  obtain ⟨bb, ob, eao, hcl⟩ := rows_at (unhide HV) (by omega)
  subst eao
  have HCL := hide hcl
  clear hcl HV HY EQ HOR
  have HP0 : Hid (blkP ((pilesOf O R).take 0) = 0) := by show _ = _; simp [blkP]
  have HPN : Hid (blkP ((pilesOf O R).take R.length) = blkP (pilesOf O R)) := by show _ = _; rw [List.take_of_length_le (by rw [piles_len]; exact Nat.le_refl _)]
  have HBD := hide (blk_bd O (unhide HL6))
  go_wp2
  clear b1
  go_loopg [6, 7] R.length (fun gh nv iv wr => ∃ k : Nat, k ≤ R.length ∧ gh = R.length - k ∧ iv = .int .i64 k ∧ nv = .int .i64 ((blkP ((pilesOf O R).take k) : Nat) : Int) ∧ Hid (Below w.heap.size w wr) ∧ Hid (OwnV wr g [.int .i64 H, .slice (some ⟨bb, ob, none⟩) R.length cap]))
  case atStart => exact ⟨0, Nat.zero_le _, rfl, rfl, by rw [unhide HP0]; rfl, HW, HB⟩
  case round =>
    clear HW HB
    obtain ⟨k, hk, rfl, rfl, rfl, HW, HB⟩ := hrel
    have b1 := (unhide HB).cell (i := 1) rfl
    by_cases hkn : k < R.length
    · have hm6 := unhide HL6 k hkn
      obtain ⟨m, em⟩ : ∃ m, (R.getD k []).length = m := ⟨_, rfl⟩
      rw [em] at hm6
      have EM0 := hide em
      clear em
      have hbk := unhide HBD k hk
      have HS : Hid (blkP ((pilesOf O R).take (k + 1)) = blkP ((pilesOf O R).take k) + wb O (R.getD k []) m) := by
        show _ = _
        rw [blkP_take (by rw [piles_len]; exact hkn), piles_get O hkn, ← unhide EM0, wb_all]
      have HW0 := hide (wb_zero O (R.getD k []))
      generalize blkP ((pilesOf O R).take k) = c0 at *
      go_wp2
      clear b1
      go_loopg [6, 8] m (fun gh nv iv wr => ∃ j : Nat, j ≤ m ∧ gh = m - j ∧ iv = .int .i64 j ∧ nv = .int .i64 ((c0 + wb O (R.getD k []) j : Nat) : Int) ∧ Hid (Below w.heap.size w wr) ∧ Hid (OwnV wr g [.int .i64 H, .slice (some ⟨bb, ob, none⟩) R.length cap]))
      case atStart => exact ⟨0, Nat.zero_le _, rfl, rfl, by rw [unhide HW0]; rfl, HW, HB⟩
      case round =>
        clear HW HB
        obtain ⟨j, hj, rfl, rfl, rfl, HW, HB⟩ := hrel
        have b1 := (unhide HB).cell (i := 1) rfl
        obtain ⟨ar, m', cr, hcell, hrow, EM, hm1, hm2⟩ := unhide HCL wr (unhide HW) k hkn
        unfold maxLen at hm2
        have em' : m' = m := by rw [← unhide EM, unhide EM0]
        subst em'
        have hwl := wb_le O (R.getD k []) j
        by_cases hjm : j < m'
        · have HWS : Hid (wb O (R.getD k []) (j + 1) = (if (∃ q, q < j ∧ trn O ((R.getD k []).getD q 0) < trn O ((R.getD k []).getD j 0)) then 1 else 0) + wb O (R.getD k []) j) := wb_succ O (by rw [unhide EM0]; exact hjm)
          obtain ⟨rb, ro, er, -⟩ := intAt hrow hjm
          subst er
          clear hrow
          generalize wb O (R.getD k []) j = wj at *
          go_wp2
          clear b1 hcell
          go_loopg [9, 10] j (fun gh bv iv wr => ∃ (i : Nat) (ov : Bool), i ≤ j ∧ gh = j - i ∧ iv = .int .i64 i ∧ bv = .bool ov ∧ Hid (OvB O (R.getD k []) i j ov) ∧ Hid (Below w.heap.size w wr) ∧ Hid (OwnV wr g [.int .i64 H, .slice (some ⟨bb, ob, none⟩) R.length cap]))
          case atStart => exact ⟨0, false, Nat.zero_le _, rfl, rfl, rfl, hide (ovB_zero _ _ _), HW, HB⟩
          case round =>
            clear HW HB
            obtain ⟨i, ov, hi, rfl, rfl, rfl, HOV, HW, HB⟩ := hrel
            have b1 := (unhide HB).cell (i := 1) rfl
            by_cases hij : i < j
            · cases ov with
              | true =>
                have HOV2 := hide (ovB_true HOV.out)
                go_upto_region 14 with (fail)
                have gt0 := fun x' : Gr wr => gr_cell ((unhide HB).cell (i := 1) rfl) x'
                have gsome := gr_some wr
                refine wp_region_grown (by kernel_rfl) (by kernel_rfl) ?_
                repeat (go_big_quiet_step (fail))
                refine wpQuiet_nil ?_
                intro wz hw1
                obtain ⟨z', hz⟩ := hw1
                have hb : Below wr.heap.size wr wz := hz ▸ z'.ok
                clear hz z' gsome gt0
                replace HW := hide (Below.step (unhide HW) hb)
                replace HB := hide ((unhide HB).step hb)
                clear hb b1
                go_wp2
                go_roundg (j - (i + 1))
                case measure => omega
                case rel => exact ⟨i + 1, true, by omega, rfl, by go_num, rfl, HOV2, HW, HB⟩
              | false =>
                obtain ⟨ar2, m2, cr2, hcell, hrow, EM2, hm12, hm22⟩ := unhide HCL wr (unhide HW) k hkn
                unfold maxLen at hm22
                have em2 : m2 = m' := by rw [← unhide EM2, unhide EM0]
                subst em2
                obtain ⟨rb, ro, er, hxi⟩ := intAt hrow (show i < m2 by omega)
                subst er
                obtain ⟨rb', ro', er, hxj⟩ := intAt hrow hjm
                simp only [Option.some.injEq, Addr.mk.injEq, and_true] at er
                obtain ⟨rfl, rfl⟩ := er
                clear hrow
                obtain ⟨yi, eyi⟩ : ∃ y, (R.getD k []).getD i 0 = y := ⟨_, rfl⟩
                obtain ⟨yj, eyj⟩ : ∃ y, (R.getD k []).getD j 0 = y := ⟨_, rfl⟩
                rw [eyi] at hxi
                rw [eyj] at hxj
                have EYI := hide eyi
                have EYJ := hide eyj
                clear eyi eyj
                have Q1 := hide fun (x' : Gr wr) => l18Turn_b _ O yi x'.val ((unhide HVO).below (Below.step (unhide HW) x'.ok))
                have Q2 := hide fun (x' : Gr wr) => l18Turn_b _ O yj x'.val ((unhide HVO).below (Below.step (unhide HW) x'.ok))
                obtain ⟨ti, eti⟩ : ∃ t, trn O yi = t := ⟨_, rfl⟩
                obtain ⟨tj, etj⟩ : ∃ t, trn O yj = t := ⟨_, rfl⟩
                rw [eti] at Q1
                rw [etj] at Q2
                have ETI := hide eti
                have ETJ := hide etj
                clear eti etj
                have hii : (i : Int) < (m2 : Int) := by omega
                have hji : (j : Int) < (m2 : Int) := by omega
                have HOV2 : Hid (OvB O (R.getD k []) (i + 1) j (decide (ti < tj))) := ovB_step HOV.out (by rw [unhide EYI, unhide ETI]) (by rw [unhide EYJ, unhide ETJ])
                go_upto_region 14 with (fail)
                have gt0 := fun x' : Gr wr => gr_cell ((unhide HB).cell (i := 1) rfl) x'
                have gt1 := fun x' : Gr wr => gr_cell (hcell) x'
                have gt2 := fun x' : Gr wr => gr_cell (hxi) x'
                have gt3 := fun x' : Gr wr => gr_cell (hxj) x'
                have gsome := gr_some wr
                refine wp_region_grown (by kernel_rfl) (by kernel_rfl) ?_
                repeat (go_big_quiet_step (fail))
                go_big_quiet_want
                go_big_quiet_op
                go_big_quiet_call (exact calls_grown (unhide Q1 _))
                repeat (go_big_quiet_step (fail))
                go_big_quiet_want
                go_big_quiet_op
                go_big_quiet_call (exact calls_grown (unhide Q2 _))
                repeat (go_big_quiet_step (fail))
                refine wpQuiet_nil ?_
                intro wz hw1
                obtain ⟨z', hz⟩ := hw1
                have hb : Below wr.heap.size wr wz := hz ▸ z'.ok
                clear hz z' gsome gt0 gt1 gt2 gt3
                replace HW := hide (Below.step (unhide HW) hb)
                replace HB := hide ((unhide HB).step hb)
                clear hb b1 hcell hxi hxj
                go_wp2
                go_roundg (j - (i + 1))
                case measure => omega
                case rel => exact ⟨i + 1, decide (ti < tj), by omega, rfl, by go_num, by first | rfl | simp, HOV2, HW, HB⟩
            · have hii : i = j := by omega
              subst hii
              cases ov with
              | true =>
                have HWT : Hid (wb O (R.getD k []) (i + 1) = wj + 1) := by
                  show _ = _
                  rw [unhide HWS, if_pos (HOV.out.of.1 rfl)]
                  omega
                go_wp2
                go_roundg (m' - (i + 1))
                case measure => omega
                case rel => exact ⟨i + 1, by omega, rfl, by go_num, by rw [unhide HWT]; go_num, HW, HB⟩
              | false =>
                have HWT : Hid (wb O (R.getD k []) (i + 1) = wj) := by
                  show _ = _
                  rw [unhide HWS, if_neg (fun h => by have := HOV.out.of.2 h; cases this)]
                  omega
                go_wp2
                go_roundg (m' - (i + 1))
                case measure => omega
                case rel => exact ⟨i + 1, by omega, rfl, by go_num, by rw [unhide HWT], HW, HB⟩
        · have hjj : j = m' := by omega
          subst hjj
          go_wp2
          go_roundg (R.length - (k + 1))
          case measure => omega
          case rel => exact ⟨k + 1, by omega, rfl, by go_num, by rw [unhide HS], HW, HB⟩
    · have hkk : k = R.length := by omega
      subst hkk
      rw [unhide HPN]
      go_wp2
      go_ret2
      exact ⟨by rw [unhide HEV]; rfl, unhide HW⟩

end Go.Proofs.Ytjllilmiloippaa

/- The specification's l18Count and YardOk. Written by wip/mkyb.py. -/
import Derived.Test.YtjllilmiloippaaYaA
import Derived.Test.YtjllilmiloippaaYaM
import Derived.Test.YtjllilmiloippaaWalkF
import Derived.Deep.QuietTactic
import Derived.BigQuiet
import Derived.Deep.DeepCutAuto
import Derived.Deep.Cut
import Derived.BigRegion
namespace Go.Proofs.Ytjllilmiloippaa
open Go.RowKit

/-- The rows of a yard that has one, in every later world. -/
theorem rows_at {w : World} {ao : Option Addr} {cap : Nat} {R : List (List Int)} (h : RowsIn w (.slice ao R.length cap) R) (h0 : 0 < R.length) : ∃ b o, ao = some ⟨b, o, none⟩ ∧ ∀ W, Below w.heap.size w W → ∀ r, r < R.length → ∃ ar m cr, W.cell? ⟨b, o + r, none⟩ = some (.slice ar m cr) ∧ IntsIn W (.slice ar m cr) (R.getD r []) ∧ Hid ((R.getD r []).length = m) ∧ m ≤ cr ∧ cr ≤ maxLen := by
  obtain ⟨ao', cap', e, hl, hm, hc⟩ := h
  simp only [Value.slice.injEq] at e
  obtain ⟨rfl, _, rfl⟩ := e
  obtain ⟨b, o, vr, rfl, _, _⟩ := hc 0 h0
  refine ⟨b, o, rfl, fun W hb r hr => ?_⟩
  obtain ⟨b', o', vr, e, hcell, hin⟩ := hc r hr
  simp only [Option.some.injEq, Addr.mk.injEq, and_true] at e
  obtain ⟨rfl, rfl⟩ := e
  have hin' := hin.below hb
  obtain ⟨ar, cr, rfl, h1, h2, _⟩ := hin
  exact ⟨ar, _, cr, (hb.cell (lt_of_cell hcell)).trans hcell, hin', rfl, h1, h2⟩

theorem rows_cap {w : World} {v : Value} {R : List (List Int)} (h : RowsIn w v R) : ∃ ao cap, v = .slice ao R.length cap ∧ R.length ≤ cap ∧ cap ≤ 9223372036854775807 := by
  obtain ⟨ao, cap, e, hl, hm, _⟩ := h
  unfold maxLen at hm
  exact ⟨ao, cap, e, hl, by omega⟩

theorem l1In_b (x a b : Int) (w : World) : Calls Try.prog 65 #[.int .i64 x, .int .i64 a, .int .i64 b] w fun e w' => e = .returned (.bool (inB x a b)) ∧ Below w.heap.size w w' := (l1In_any x a b w).mono fun _ _ ⟨h1, h2⟩ => ⟨h1, by rw [h2]; exact Below.refl _ _⟩

theorem cnt_bd {R : List (List Int)} (x : Int) (hl : ∀ s, s < R.length → (R.getD s []).length ≤ 6) : ∀ k, k ≤ R.length → cnt R x k ≤ 6 * k
  | 0, _ => by rw [cnt_zero]; omega
  | q + 1, h => by
    have h1 := cnt_succ x (show q < R.length by omega)
    have h2 := cnt_bd x hl q (by omega)
    have h3 := hl q (by omega)
    have h4 := List.count_le_length (a := x) (l := R.getD q [])
    omega

set_option maxRecDepth 10000 in
set_option maxHeartbeats 1600000 in
theorem l18Count_any (H x : Int) (v : Value) (R : List (List Int)) (w : World) (h : RowsIn w v R) (hn : R.length ≤ 12) (hl : ∀ s, s < R.length → (R.getD s []).length ≤ 6) :
    Calls Try.prog 66 #[yardV H v, .int .i64 x] w fun e w' => e = .returned (.int .i64 ((R.flatten.count x : Nat) : Int)) ∧ Below w.heap.size w w' := by
  have HV := hide h
  obtain ⟨ao, cap, rfl, hc1, hc2⟩ := rows_cap h
  clear h
  have HL := hide hl
  clear hl
  have HB := hide (ownV_alloc w #[.int .i64 H, .slice ao R.length cap] 26)
  have HW := hide (Below.alloc1 w (.cells #[.int .i64 H, .slice ao R.length cap] 26))
  have HA := hide (cnt_all R x)
  obtain ⟨g, eg⟩ : ∃ g, g = w.heap.size := ⟨_, rfl⟩
  unfold yardV
  go_enter Try.func66, Try.ntmps66
  go_upto_region 1 with (fail)
  obtain ⟨W0, eW⟩ : ∃ z, z = w.alloc (.cells #[.int .i64 H, .slice ao R.length cap] 26) := ⟨_, rfl⟩
  rw [← eW] at HB HW ⊢
  rw [← eg] at HB ⊢
  clear eW eg
  have b0 := (unhide HB).cell (i := 0) rfl
  have b1 := (unhide HB).cell (i := 1) rfl
  clear HB
  have HZ := hide (cnt_zero R x)
  go_wp2
  go_loopg [5, 6] R.length (fun gh nv iv wr => W0 = wr ∧ ∃ k : Nat, k ≤ R.length ∧ gh = R.length - k ∧ iv = .int .i64 k ∧ nv = .int .i64 ((cnt R x k : Nat) : Int))
  case atStart => exact ⟨rfl, 0, Nat.zero_le _, rfl, rfl, by rw [unhide HZ]; rfl⟩
  case round =>
    obtain ⟨rfl, k, hk, rfl, rfl, rfl⟩ := hrel
    by_cases hkn : k < R.length
    · obtain ⟨b, o, eao, hcl⟩ := rows_at (unhide HV) (by omega)
      subst eao
      obtain ⟨ar, m, cr, hcell, hrow, EM, hm1, hm2⟩ := hcl W0 (unhide HW) k hkn
      clear hcl
      unfold maxLen at hm2
      have HR := hide hrow
      clear hrow
      have hm6 := unhide HL k hkn
      rw [unhide EM] at hm6
      have HCT : Hid (∀ j, j < m → (((R.getD k []).take (j + 1)).count x = ((R.getD k []).take j).count x + if (R.getD k []).getD j 0 = x then 1 else 0)) := fun j hj => count_take_succ x (by rw [unhide EM]; exact hj)
      have HCS : Hid (cnt R x (k + 1) = cnt R x k + ((R.getD k []).take m).count x) := by
        show _ = _
        rw [cnt_succ x hkn, List.take_of_length_le (by rw [unhide EM]; exact Nat.le_refl _)]
      have hcb : cnt R x k ≤ 6 * k := cnt_bd x (unhide HL) k hk
      have HTB : Hid (∀ j, ((R.getD k []).take j).count x ≤ j) := fun j => Nat.le_trans List.count_le_length (by rw [List.length_take]; omega)
      have HT0 : Hid (((R.getD k []).take 0).count x = 0) := by show _ = _; simp
      generalize cnt R x k = ck at *
      go_wp2
      go_loopg [5, 7] m (fun gh nv iv wr => W0 = wr ∧ ∃ j : Nat, j ≤ m ∧ gh = m - j ∧ iv = .int .i64 j ∧ nv = .int .i64 ((ck + ((R.getD k []).take j).count x : Nat) : Int))
      case atStart => exact ⟨rfl, 0, Nat.zero_le _, rfl, rfl, by rw [unhide HT0]; rfl⟩
      case round =>
        obtain ⟨rfl, j, hj, rfl, rfl, rfl⟩ := hrel
        by_cases hjm : j < m
        · obtain ⟨rb, ro, er, hx⟩ := intAt (unhide HR) hjm
          subst er
          have hct := unhide HCT j hjm
          have htb := unhide HTB j
          obtain ⟨y, ey⟩ : ∃ y, (R.getD k []).getD j 0 = y := ⟨_, rfl⟩
          rw [ey] at hx hct
          clear ey
          obtain ⟨c0, e0⟩ : ∃ c, ((R.getD k []).take j).count x = c := ⟨_, rfl⟩
          rw [e0] at hct htb ⊢
          clear e0
          by_cases hyx : y = x
          · rw [if_pos hyx] at hct
            have HCJ := hide hct
            clear hct
            subst hyx
            go_wp2
            go_roundg (m - (j + 1))
            case measure => omega
            case rel => exact ⟨rfl, j + 1, by omega, rfl, by go_num, by rw [unhide HCJ]; go_num⟩
          · rw [if_neg hyx] at hct
            have HCJ := hide hct
            clear hct
            have hd : (y == x) = false := by simpa using hyx
            go_wp2
            go_roundg (m - (j + 1))
            case measure => omega
            case rel => exact ⟨rfl, j + 1, by omega, rfl, by go_num, by rw [unhide HCJ]; go_num⟩
        · have hjj : j = m := by omega
          subst hjj
          go_wp2
          go_roundg (R.length - (k + 1))
          case measure => omega
          case rel => exact ⟨rfl, k + 1, by omega, rfl, by go_num, by rw [unhide HCS]⟩
    · have hkk : k = R.length := by omega
      subst hkk
      rw [unhide HA]
      go_wp2
      go_ret
      exact ⟨rfl, unhide HW⟩

theorem yok_box {H : Int} {R : List (List Int)} (h : YOk H R) {s t : Nat} (hs : s < R.length) (ht : t < (R.getD s []).length) : R.flatten.count ((R.getD s []).getD t 0) = 1 :=
  nodup_cnt.1 h.one _ (mem_flat.2 ⟨s, hs, mem_at.2 ⟨t, ht, rfl⟩⟩)

set_option maxRecDepth 100000 in
set_option maxHeartbeats 4000000 in
theorem specYardOk_any (H : Int) (v : Value) (R : List (List Int)) (w : World) (h : RowsIn w v R) :
    Calls Try.prog 23 #[yardV H v] w fun e w' => e = .returned (.bool (yardB H R)) ∧ Below w.heap.size w w' := by
  have HV := hide h
  obtain ⟨ao, cap, rfl, hc1, hc2⟩ := rows_cap h
  clear h
  have HRT : Hid (YOk H R → yardB H R = true) := fun h => decide_eq_true h
  have HRF : Hid (¬ YOk H R → yardB H R = false) := fun h => decide_eq_false h
  generalize yardB H R = r at HRT HRF ⊢
  have HB := hide (ownV_alloc w #[.int .i64 H, .slice ao R.length cap] 26)
  have HW := hide (Below.alloc1 w (.cells #[.int .i64 H, .slice ao R.length cap] 26))
  obtain ⟨g, eg⟩ : ∃ g, g = w.heap.size := ⟨_, rfl⟩
  have HCN := hide fun W (hb : Below w.heap.size w W) x h1 h2 => l18Count_any H x (.slice ao R.length cap) R W ((unhide HV).below hb) h1 h2
  unfold yardV at HCN ⊢
  go_enter Try.func23, Try.ntmps23
  go_upto_region 1 with (fail)
  obtain ⟨W0, eW⟩ : ∃ z, z = w.alloc (.cells #[.int .i64 H, .slice ao R.length cap] 26) := ⟨_, rfl⟩
  rw [← eW] at HB HW ⊢
  rw [← eg] at HB ⊢
  clear eW eg
  have b0 := (unhide HB).cell (i := 0) rfl
  have b1 := (unhide HB).cell (i := 1) rfl
  have Q1 := hide fun V => l1In_b H 1 6 V
  have Q2 := hide fun V => l1In_b (R.length : Int) 1 12 V
  cases h1 : inB H 1 6 with
  | false =>
    have e1 : r = false := unhide HRF (fun h => by have := inB_mk h.h1 h.h2; rw [h1] at this; cases this)
    subst e1
    rw [h1] at Q1
    go_wp2_with fail
    refine (unhide Q1 _).mono ?_
    rintro e w9 ⟨rfl, hb⟩
    have HW9 := hide (Below.step (unhide HW) hb)
    clear hb
    go_wp2
    go_ret
    exact ⟨rfl, unhide HW9⟩
  | true =>
  obtain ⟨hh1, hh2⟩ := inB_true h1
  rw [h1] at Q1
  go_wp2_with fail
  refine (unhide Q1 _).mono ?_
  rintro e w9 ⟨rfl, hb⟩
  replace HW := hide (Below.step (unhide HW) hb)
  replace HB := hide ((unhide HB).step hb)
  clear hb b0 b1 h1 Q1
  have b0 := (unhide HB).cell (i := 0) rfl
  have b1 := (unhide HB).cell (i := 1) rfl
  cases h2 : inB (R.length : Int) 1 12 with
  | false =>
    have e1 : r = false := unhide HRF (fun h => by have := inB_mk (show (1 : Int) ≤ (R.length : Int) from by have := h.n1; omega) (show (R.length : Int) ≤ 12 from by have := h.n2; omega); rw [h2] at this; cases this)
    subst e1
    rw [h2] at Q2
    go_wp2_with fail
    refine (unhide Q2 _).mono ?_
    rintro e w10 ⟨rfl, hb⟩
    have HW9 := hide (Below.step (unhide HW) hb)
    clear hb
    go_wp2
    go_ret
    exact ⟨rfl, unhide HW9⟩
  | true =>
  obtain ⟨hn1, hn2⟩ := inB_true h2
  rw [h2] at Q2
  go_wp2_with fail
  refine (unhide Q2 _).mono ?_
  rintro e w10 ⟨rfl, hb⟩
  replace HW := hide (Below.step (unhide HW) hb)
  replace HB := hide ((unhide HB).step hb)
  clear hb b0 b1 h2 Q2
  obtain ⟨bb, oo, eao, hcl⟩ := rows_at (unhide HV) (by omega)
  subst eao
  have HCL := hide hcl
  clear hcl HV
  go_wp2
  go_loopg [3] R.length (fun gh iv wr => ∃ k : Nat, k ≤ R.length ∧ gh = R.length - k ∧ iv = .int .i64 k ∧ Hid (Below w.heap.size w wr) ∧ Hid (OwnV wr g [.int .i64 H, .slice (some ⟨bb, oo, none⟩) R.length cap]) ∧ Hid (∀ s, s < k → ((R.getD s []).length : Int) ≤ H))
  case atStart => exact ⟨0, Nat.zero_le _, rfl, rfl, HW, HB, fun s hs => by omega⟩
  case round =>
    clear HW HB
    obtain ⟨k, hk, rfl, rfl, HW, HB, HS⟩ := hrel
    have b0 := (unhide HB).cell (i := 0) rfl
    have b1 := (unhide HB).cell (i := 1) rfl
    by_cases hkn : k < R.length
    · obtain ⟨ar, m, cr, hcell, -, EM, hm1, hm2⟩ := unhide HCL wr (unhide HW) k hkn
      unfold maxLen at hm2
      go_upto_region 6 with (fail)
      cases hlow : decide (H < (m : Int)) with
      | true =>
        have e1 : r = false := unhide HRF (fun h => by have := h.low k hkn; rw [unhide EM] at this; have := of_decide_eq_true hlow; omega)
        subst e1
        have gt0 := fun x' : Gr wr => gr_cell ((unhide HB).cell (i := 0) rfl) x'
        have gt1 := fun x' : Gr wr => gr_cell ((unhide HB).cell (i := 1) rfl) x'
        have gt2 := fun x' : Gr wr => gr_cell (hcell) x'
        have gsome := gr_some wr
        refine wp_region_grown (by kernel_rfl) (by kernel_rfl) ?_
        repeat (go_big_quiet_step (fail))
        refine wpQuiet_nil ?_
        intro wz hw1
        obtain ⟨z', hz⟩ := hw1
        have hb : Below wr.heap.size wr wz := hz ▸ z'.ok
        clear hz z' gsome gt0 gt1 gt2
        replace HW := hide (Below.step (unhide HW) hb)
        clear hb
        go_wp2
        go_ret
        exact ⟨rfl, unhide HW⟩
      | false =>
        have gt0 := fun x' : Gr wr => gr_cell ((unhide HB).cell (i := 0) rfl) x'
        have gt1 := fun x' : Gr wr => gr_cell ((unhide HB).cell (i := 1) rfl) x'
        have gt2 := fun x' : Gr wr => gr_cell (hcell) x'
        have gsome := gr_some wr
        refine wp_region_grown (by kernel_rfl) (by kernel_rfl) ?_
        repeat (go_big_quiet_step (fail))
        refine wpQuiet_nil ?_
        intro wz hw1
        obtain ⟨z', hz⟩ := hw1
        have hb : Below wr.heap.size wr wz := hz ▸ z'.ok
        clear hz z' gsome gt0 gt1 gt2
        replace HW := hide (Below.step (unhide HW) hb)
        replace HB := hide ((unhide HB).step hb)
        clear hb b0 b1 hcell
        go_wp2
        go_roundg (R.length - (k + 1))
        case measure => omega
        case rel => exact ⟨k + 1, by omega, rfl, by go_num, HW, HB, fun s hs => by
          by_cases e : s = k
          · subst e; rw [unhide EM]; have := of_decide_eq_false hlow; omega
          · exact HS.out s (by omega)⟩
    · have hkk : k = R.length := by omega
      subst hkk
      have HL6 : Hid (∀ s, s < R.length → (R.getD s []).length ≤ 6) := fun s hs => by have := HS.out s hs; omega
      go_wp2
      clear b0 b1
      go_loopg [4] R.length (fun gh iv wr => ∃ k : Nat, k ≤ R.length ∧ gh = R.length - k ∧ iv = .int .i64 k ∧ Hid (Below w.heap.size w wr) ∧ Hid (OwnV wr g [.int .i64 H, .slice (some ⟨bb, oo, none⟩) R.length cap]) ∧ Hid (∀ s, s < k → ∀ t, t < (R.getD s []).length → (1 ≤ (R.getD s []).getD t 0 ∧ (R.getD s []).getD t 0 ≤ 1000000) ∧ R.flatten.count ((R.getD s []).getD t 0) = 1))
      case atStart => exact ⟨0, Nat.zero_le _, rfl, rfl, HW, HB, fun s hs => by omega⟩
      case round =>
        clear HW HB
        obtain ⟨k, hk, rfl, rfl, HW, HB, HD⟩ := hrel
        have b0 := (unhide HB).cell (i := 0) rfl
        have b1 := (unhide HB).cell (i := 1) rfl
        by_cases hkn : k < R.length
        · have hm6 := unhide HL6 k hkn
          obtain ⟨m, em⟩ : ∃ m, (R.getD k []).length = m := ⟨_, rfl⟩
          rw [em] at hm6
          have EM0 := hide em
          clear em
          go_wp2
          clear b0 b1
          go_loopg [5] m (fun gh iv wr => ∃ j : Nat, j ≤ m ∧ gh = m - j ∧ iv = .int .i64 j ∧ Hid (Below w.heap.size w wr) ∧ Hid (OwnV wr g [.int .i64 H, .slice (some ⟨bb, oo, none⟩) R.length cap]) ∧ Hid (∀ t, t < j → (1 ≤ (R.getD k []).getD t 0 ∧ (R.getD k []).getD t 0 ≤ 1000000) ∧ R.flatten.count ((R.getD k []).getD t 0) = 1))
          case atStart => exact ⟨0, Nat.zero_le _, rfl, rfl, HW, HB, fun s hs => by omega⟩
          case round =>
            clear HW HB
            obtain ⟨j, hj, rfl, rfl, HW, HB, HE⟩ := hrel
            have b0 := (unhide HB).cell (i := 0) rfl
            have b1 := (unhide HB).cell (i := 1) rfl
            obtain ⟨ar, m', cr, hcell, hrow, EM, hm1, hm2⟩ := unhide HCL wr (unhide HW) k hkn
            unfold maxLen at hm2
            have em' : m' = m := by rw [← unhide EM, unhide EM0]
            subst em'
            clear EM0
            by_cases hjm : j < m'
            · obtain ⟨rb, ro, er, hx⟩ := intAt hrow hjm
              subst er
              clear hrow
              obtain ⟨y, ey⟩ : ∃ y, (R.getD k []).getD j 0 = y := ⟨_, rfl⟩
              rw [ey] at hx
              have EY := hide ey
              clear ey
              have Q1 := hide fun V => l1In_b y 1 1000000 V
              have Q2 := hide fun (x' : Gr wr) => unhide HCN x'.val (Below.step (unhide HW) x'.ok) y (by omega) (unhide HL6)
              go_upto_region 14 with (fail)
              cases h1 : inB y 1 1000000 with
              | false =>
                have e1 : r = false := unhide HRF (fun h => by
                  have h9 := h.box k hkn j (by rw [unhide EM]; exact hjm)
                  rw [unhide EY] at h9
                  have := inB_mk h9.1 h9.2
                  rw [h1] at this; cases this)
                subst e1
                rw [h1] at Q1
                have gt0 := fun x' : Gr wr => gr_cell ((unhide HB).cell (i := 0) rfl) x'
                have gt1 := fun x' : Gr wr => gr_cell ((unhide HB).cell (i := 1) rfl) x'
                have gt2 := fun x' : Gr wr => gr_cell (hcell) x'
                have gt3 := fun x' : Gr wr => gr_cell (hx) x'
                have gsome := gr_some wr
                refine wp_region_grown (by kernel_rfl) (by kernel_rfl) ?_
                repeat (go_big_quiet_step (fail))
                go_big_quiet_want
                go_big_quiet_op
                go_big_quiet_call (exact calls_grown (unhide Q1 _))
                repeat (go_big_quiet_step (fail))
                refine wpQuiet_nil ?_
                intro wz hw1
                obtain ⟨z', hz⟩ := hw1
                have hb : Below wr.heap.size wr wz := hz ▸ z'.ok
                clear hz z' gsome gt0 gt1 gt2 gt3
                replace HW := hide (Below.step (unhide HW) hb)
                clear hb
                go_wp2
                go_ret
                exact ⟨rfl, unhide HW⟩
              | true =>
                rw [h1] at Q1
                have hy := inB_true h1
                have HY := hide hy
                clear hy
                obtain ⟨c, ec⟩ : ∃ c, R.flatten.count y = c := ⟨_, rfl⟩
                rw [ec] at Q2
                have EC := hide ec
                clear ec
                by_cases hc : c = 1
                · subst hc
                  have gt0 := fun x' : Gr wr => gr_cell ((unhide HB).cell (i := 0) rfl) x'
                  have gt1 := fun x' : Gr wr => gr_cell ((unhide HB).cell (i := 1) rfl) x'
                  have gt2 := fun x' : Gr wr => gr_cell (hcell) x'
                  have gt3 := fun x' : Gr wr => gr_cell (hx) x'
                  have gsome := gr_some wr
                  refine wp_region_grown (by kernel_rfl) (by kernel_rfl) ?_
                  repeat (go_big_quiet_step (fail))
                  go_big_quiet_want
                  go_big_quiet_op
                  go_big_quiet_call (exact calls_grown (unhide Q1 _))
                  repeat (go_big_quiet_step (fail))
                  go_big_quiet_want
                  go_big_quiet_op
                  go_big_quiet_call (exact calls_grown (unhide Q2 _))
                  repeat (go_big_quiet_step (fail))
                  refine wpQuiet_nil ?_
                  intro wz hw1
                  obtain ⟨z', hz⟩ := hw1
                  have hb : Below wr.heap.size wr wz := hz ▸ z'.ok
                  clear hz z' gsome gt0 gt1 gt2 gt3
                  replace HW := hide (Below.step (unhide HW) hb)
                  replace HB := hide ((unhide HB).step hb)
                  clear hb b0 b1 hcell hx
                  go_wp2
                  go_roundg (m' - (j + 1))
                  case measure => omega
                  case rel => exact ⟨j + 1, by omega, rfl, by go_num, HW, HB, fun t ht => by
                    by_cases e : t = j
                    · subst e; rw [unhide EY]; exact ⟨unhide HY, unhide EC⟩
                    · exact HE.out t (by omega)⟩
                · have e1 : r = false := unhide HRF (fun h => by
                    have h9 := yok_box h hkn (show j < (R.getD k []).length by rw [unhide EM]; exact hjm)
                    rw [unhide EY, unhide EC] at h9
                    exact hc h9)
                  subst e1
                  have hd : ((c : Int) == 1) = false := by simp; omega
                  clear hc
                  have gt0 := fun x' : Gr wr => gr_cell ((unhide HB).cell (i := 0) rfl) x'
                  have gt1 := fun x' : Gr wr => gr_cell ((unhide HB).cell (i := 1) rfl) x'
                  have gt2 := fun x' : Gr wr => gr_cell (hcell) x'
                  have gt3 := fun x' : Gr wr => gr_cell (hx) x'
                  have gsome := gr_some wr
                  refine wp_region_grown (by kernel_rfl) (by kernel_rfl) ?_
                  repeat (go_big_quiet_step (fail))
                  go_big_quiet_want
                  go_big_quiet_op
                  go_big_quiet_call (exact calls_grown (unhide Q1 _))
                  repeat (go_big_quiet_step (fail))
                  go_big_quiet_want
                  go_big_quiet_op
                  go_big_quiet_call (exact calls_grown (unhide Q2 _))
                  repeat (go_big_quiet_step (fail))
                  refine wpQuiet_nil ?_
                  intro wz hw1
                  obtain ⟨z', hz⟩ := hw1
                  have hb : Below wr.heap.size wr wz := hz ▸ z'.ok
                  clear hz z' gsome gt0 gt1 gt2 gt3
                  replace HW := hide (Below.step (unhide HW) hb)
                  clear hb
                  go_wp2
                  go_ret
                  exact ⟨rfl, unhide HW⟩
            · have hjj : j = m' := by omega
              subst hjj
              go_wp2
              go_roundg (R.length - (k + 1))
              case measure => omega
              case rel => exact ⟨k + 1, by omega, rfl, by go_num, HW, HB, fun s hs => by
                by_cases e : s = k
                · subst e; rw [unhide EM]; exact HE.out
                · exact HD.out s (by omega)⟩
        · have hkk : k = R.length := by omega
          subst hkk
          have e1 : r = true := unhide HRT ⟨hh1, hh2, by omega, by omega, HS.out, fun s hs t ht => (HD.out s hs t ht).1, nodup_cnt.2 fun x hx => by
            obtain ⟨s, hs, hx⟩ := mem_flat.1 hx
            obtain ⟨t, ht, rfl⟩ := mem_at.1 hx
            exact (HD.out s hs t ht).2⟩
          subst e1
          go_wp2
          go_ret
          exact ⟨rfl, unhide HW⟩

end Go.Proofs.Ytjllilmiloippaa

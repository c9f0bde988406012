/- Calls: contracts of longAt and of both Bound17. -/
import Derived.Test.YtogoknldhimgfaaBeA
namespace Go.Proofs.Ytogoknldhimgfaa
open Go.RowKit

theorem ret_ib17 {V : Int × Bool} {x : Int} {b : Bool} (h : V = (x, b)) : (Ending.returned (.tuple #[.int .i64 x, .bool b])) = .returned (.tuple #[.int .i64 V.1, .bool V.2]) := by rw [h]
theorem bdV_no {long : Int} {L : List CallT} (h : caB long L = false) : bdV long L = (0, false) := by unfold bdV; rw [if_neg (caB_no h)]
theorem bdV_yes {long : Int} {L : List CallT} (h : CaP long L) : bdV long L = (bdM L L.length, true) := by unfold bdV; rw [if_pos h]

set_option maxRecDepth 100000 in
set_option maxHeartbeats 4000000 in
theorem longAt_any (v : Value) (long m : Int) (L : List CallT) (w : World) (h : RCall w v L) (hP : CaP long L) :
    Calls Try.prog 63 #[v, .int .i64 m] w fun e w' => e = .returned (.int .i64 (lgs L m L.length)) ∧ Below w.heap.size w w' := by
  obtain ⟨ao, cap, rfl, hl, hm, hc⟩ := h
  unfold maxLen at hm
  have HC := hide hc
  have HBD := hide fun k hk => lgs_bd hP m k hk
  have HLG := hide fun k hk => (hP.2.2 k hk).2.1.1
  have h24 := hP.2.1
  clear hc hP
  go_enter Try.func63, Try.ntmps63
  go_wp2
  go_loopg [5, 10] L.length (fun g sv i wr => Hid (Below w.heap.size w wr) ∧ ∃ k : Nat, k ≤ L.length ∧ g = L.length - k ∧ i = .int .i64 k ∧ sv = .int .i64 (lgs L m k))
  case atStart => exact ⟨Below.refl _ _, 0, Nat.zero_le _, rfl, rfl, rfl⟩
  case round =>
    obtain ⟨HW, k, hk, rfl, rfl, rfl⟩ := hrel
    by_cases hkn : k < L.length
    · obtain ⟨b, o, x0, x1, x2, x3, x4, rfl, hc0, hc1, hc2, hc3, hc4, EX⟩ := recCallAt (unhide HC) hkn
      have g0 := wcell3 hc0 (unhide HW)
      have g1 := wcell3 hc1 (unhide HW)
      have g2 := wcell3 hc2 (unhide HW)
      have g3 := wcell3 hc3 (unhide HW)
      have g4 := wcell3 hc4 (unhide HW)
      have hki : (k : Int) < L.length := by omega
      have ex : ca L k = (x0, x1, x2, x3, x4) := unhide EX
      have HW1 := hide (Below.step (unhide HW) (Below.alloc1 wr (.cells #[.int .i64 x0, .int .i64 x1, .int .i64 x2, .int .i64 x3, .int .i64 x4] 31)))
      have hb1 := unhide HBD k (by omega)
      have hx1 : 1 ≤ x1 ∧ x1 ≤ 1000 := by have h9 := unhide HLG k hkn; rw [ex] at h9; exact h9
      have HN : Hid (lgs L m (k + 1) = lgs L m k + (if (decide (x2 ≤ m) && decide (m < x3)) then x1 else 0)) := by show _ = _; simp only [lgs, onAt]; rw [ex]; rfl
      clear hc0 hc1 hc2 hc3 hc4 EX ex
      generalize lgs L m k = S at *
      by_cases h1 : x2 ≤ m
      · have d1 : decide (x2 ≤ m) = true := decide_eq_true h1
        by_cases h2 : m < x3
        · have d2 : decide (m < x3) = true := decide_eq_true h2
          rw [d1, d2] at HN
          go_wp2
          go_roundg (L.length - (k + 1))
          case measure => omega
          case rel => exact ⟨HW1, k + 1, by omega, rfl, by go_num, by rw [unhide HN]; rfl⟩
        · have d2 : decide (m < x3) = false := decide_eq_false h2
          rw [d1, d2] at HN
          go_wp2
          go_roundg (L.length - (k + 1))
          case measure => omega
          case rel => exact ⟨HW1, k + 1, by omega, rfl, by go_num, by rw [unhide HN]; simp⟩
      · have d1 : decide (x2 ≤ m) = false := decide_eq_false h1
        rw [d1] at HN
        go_wp2
        go_roundg (L.length - (k + 1))
        case measure => omega
        case rel => exact ⟨HW1, k + 1, by omega, rfl, by go_num, by rw [unhide HN]; simp⟩
    · obtain rfl : k = L.length := by omega
      go_wp2
      go_ret
      exact ⟨rfl, unhide HW⟩

set_option maxRecDepth 100000 in
set_option maxHeartbeats 4000000 in
theorem implBound17_any (v : Value) (long : Int) (L : List CallT) (w : World) (h : RCall w v L) :
    Calls Try.prog 20 #[.int .i64 long, v] w fun e w' => e = .returned (.tuple #[.int .i64 (bdV long L).1, .bool (bdV long L).2]) ∧ Below w.heap.size w w' := by
  have Q1 := hide (implCallsOk_any v long L w h)
  have HV := hide fun V (hV : Below w.heap.size w V) => h.below hV
  obtain ⟨ao, cap, rfl, hl, hm, hc⟩ := h
  unfold maxLen at hm
  have HC := hide hc
  clear hc
  cases hb : caB long L with
  | false =>
    have HF := hide (bdV_no hb)
    rw [hb] at Q1
    go_enter Try.func20, Try.ntmps20
    go_wp2_with fail
    refine (unhide Q1).mono ?_
    rintro e w1 ⟨rfl, hbb⟩
    have HW := hide hbb
    clear hbb Q1 hb
    go_wp2
    refine bodyPost_ret (v := .tuple #[.int .i64 0, .bool false]) (by simp [results, Try.results20, go_sem]) rfl ⟨ret_ib17 (unhide HF), unhide HW⟩
  | true =>
  have hP := caB_iff.1 hb
  have HP := hide hP
  have HF := hide (bdV_yes hP)
  have h24 := hP.2.1
  rw [hb] at Q1
  clear hP
  go_enter Try.func20, Try.ntmps20
  go_wp2_with fail
  refine (unhide Q1).mono ?_
  rintro e w1 ⟨rfl, hbb⟩
  have HW0 := hide hbb
  clear hbb Q1 hb
  go_wp2
  go_loopg [6, 15] L.length (fun g sv i wr => Hid (Below w.heap.size w wr) ∧ ∃ k : Nat, k ≤ L.length ∧ g = L.length - k ∧ i = .int .i64 k ∧ sv = .int .i64 (bdM L k))
  case atStart => exact ⟨HW0, 0, Nat.zero_le _, rfl, rfl, rfl⟩
  case round =>
    clear HW0
    obtain ⟨HW, k, hk, rfl, rfl, rfl⟩ := hrel
    by_cases hkn : k < L.length
    · obtain ⟨b, o, x0, x1, x2, x3, x4, rfl, hc0, hc1, hc2, hc3, hc4, EX⟩ := recCallAt (unhide HC) hkn
      have g0 := wcell3 hc0 (unhide HW)
      have g1 := wcell3 hc1 (unhide HW)
      have g2 := wcell3 hc2 (unhide HW)
      have g3 := wcell3 hc3 (unhide HW)
      have g4 := wcell3 hc4 (unhide HW)
      have hki : (k : Int) < L.length := by omega
      have ex : ca L k = (x0, x1, x2, x3, x4) := unhide EX
      have HW1 := hide (Below.step (unhide HW) (Below.alloc1 wr (.cells #[.int .i64 x0, .int .i64 x1, .int .i64 x2, .int .i64 x3, .int .i64 x4] 31)))
      have HX := hide (ownV_alloc wr #[.int .i64 x0, .int .i64 x1, .int .i64 x2, .int .i64 x3, .int .i64 x4] 31)
      have HN : Hid (bdM L (k + 1) = max (bdM L k) (lgs L x2 L.length)) := by show _ = _; simp only [bdM]; rw [ex]
      have Q2 := hide fun V (hV : Below w.heap.size w V) => longAt_any _ long x2 L V (unhide HV V hV) (unhide HP)
      clear hc0 hc1 hc2 hc3 hc4 EX ex
      generalize lgs L x2 L.length = S at *
      generalize bdM L k = B at *
      go_wp2_with fail
      refine (unhide Q2 _ (unhide HW1)).mono ?_
      rintro e w2 ⟨rfl, hbb⟩
      replace HW1 := hide (Below.step (unhide HW1) hbb)
      clear hbb Q2 HX
      by_cases hgt : B < S
      · have hmx : max B S = S := by omega
        rw [hmx] at HN
        clear hmx
        go_wp2
        go_roundg (L.length - (k + 1))
        case measure => omega
        case rel => exact ⟨HW1, k + 1, by omega, rfl, by go_num, by rw [unhide HN]⟩
      · have hmx : max B S = B := by omega
        rw [hmx] at HN
        clear hmx
        go_wp2
        go_roundg (L.length - (k + 1))
        case measure => omega
        case rel => exact ⟨HW1, k + 1, by omega, rfl, by go_num, by rw [unhide HN]⟩
    · obtain rfl : k = L.length := by omega
      go_wp2
      refine bodyPost_ret (v := .tuple #[.int .i64 (bdM L L.length), .bool true]) (by simp [results, Try.results20, go_sem]) rfl ⟨ret_ib17 (unhide HF), unhide HW⟩

set_option maxRecDepth 100000 in
set_option maxHeartbeats 8000000 in
theorem specBound17_any (v : Value) (long : Int) (L : List CallT) (w : World) (h : RCall w v L) :
    Calls Try.prog 35 #[.int .i64 long, v] w fun e w' => e = .returned (.tuple #[.int .i64 (bdV long L).1, .bool (bdV long L).2]) ∧ Below w.heap.size w w' := by
  have Q1 := hide (specCallsOk_any v long L w h)
  obtain ⟨ao, cap, rfl, hl, hm, hc⟩ := h
  unfold maxLen at hm
  have HC := hide hc
  clear hc
  cases hb : caB long L with
  | false =>
    have HF := hide (bdV_no hb)
    rw [hb] at Q1
    go_enter Try.func35, Try.ntmps35
    go_wp2_with fail
    refine (unhide Q1).mono ?_
    rintro e w1 ⟨rfl, hbb⟩
    have HW := hide hbb
    clear hbb Q1 hb
    go_wp2
    refine bodyPost_ret (v := .tuple #[.int .i64 0, .bool false]) (by simp [results, Try.results35, go_sem]) rfl ⟨ret_ib17 (unhide HF), unhide HW⟩
  | true =>
  have hP := caB_iff.1 hb
  have HP := hide hP
  have HF := hide (bdV_yes hP)
  have h24 := hP.2.1
  rw [hb] at Q1
  clear hP
  go_enter Try.func35, Try.ntmps35
  go_wp2_with fail
  refine (unhide Q1).mono ?_
  rintro e w1 ⟨rfl, hbb⟩
  have HW0 := hide hbb
  clear hbb Q1 hb
  go_wp2
  go_loopg [6, 7] L.length (fun g sv i wr => Hid (Below w.heap.size w wr) ∧ ∃ k : Nat, k ≤ L.length ∧ g = L.length - k ∧ i = .int .i64 k ∧ sv = .int .i64 (bdM L k))
  case atStart => exact ⟨HW0, 0, Nat.zero_le _, rfl, rfl, rfl⟩
  case round =>
    clear HW0
    obtain ⟨HWo, i, hi, rfl, rfl, rfl⟩ := hrel
    by_cases hin : i < L.length
    · obtain ⟨b, o, a0, a1, m, a3, a4, rfl, -, -, hm2, -, -, EXi⟩ := recCallAt (unhide HC) hin
      have hii : (i : Int) < L.length := by omega
      have exi : ca L i = (a0, a1, m, a3, a4) := unhide EXi
      have HNi : Hid (bdM L (i + 1) = max (bdM L i) (lgs L m L.length)) := by show _ = _; simp only [bdM]; rw [exi]
      have hBb := bdM_bd (unhide HP) i
      clear EXi exi
      generalize bdM L i = B at *
      generalize hwo : wr = wo at *
      clear hwo
      go_wp2
      go_loopg [8, 9] L.length (fun g sv kv wr => Hid (Below w.heap.size w wr) ∧ ∃ k : Nat, k ≤ L.length ∧ g = L.length - k ∧ kv = .int .i64 k ∧ sv = .int .i64 (lgs L m k))
      case atStart => exact ⟨HWo, 0, Nat.zero_le _, rfl, rfl, rfl⟩
      case round =>
        clear HWo
        obtain ⟨HW, k, hk, rfl, rfl, rfl⟩ := hrel
        have hSb := lgs_bd (unhide HP) m k hk
        by_cases hkn : k < L.length
        · obtain ⟨b', o', x0, x1, x2, x3, x4, e', -, hc1, hc2, hc3, -, EX⟩ := recCallAt (unhide HC) hkn
          simp only [Option.some.injEq, Addr.mk.injEq, and_true] at e'
          obtain ⟨rfl, rfl⟩ := e'
          have f2 := wcell3 hm2 (unhide HW)
          have g1 := wcell3 hc1 (unhide HW)
          have g2 := wcell3 hc2 (unhide HW)
          have g3 := wcell3 hc3 (unhide HW)
          have hki : (k : Int) < L.length := by omega
          have ex : ca L k = (x0, x1, x2, x3, x4) := unhide EX
          have hcs := ((unhide HP).2.2 k hkn).2.1
          rw [ex] at hcs
          obtain ⟨hx1, hx2, -⟩ : (1 ≤ x1 ∧ x1 ≤ 1000) ∧ (0 ≤ x2 ∧ x2 < x3 ∧ x3 ≤ 100000000) ∧ (x4 = -1 ∨ (0 ≤ x4 ∧ x4 + x1 ≤ long)) := hcs
          have HN : Hid (lgs L m (k + 1) = lgs L m k + (if inB m x2 (x3 - 1) then x1 else 0)) := by show _ = _; simp only [lgs]; rw [onAt_in, ex]
          obtain ⟨z, ez⟩ : ∃ z, z = x3 - 1 := ⟨_, rfl⟩
          have qz : IntKind.i64.wrap (x3 - 1) = z := by rw [← ez, IntKind.wrap_i64]; omega
          rw [← ez] at HN
          have Q2 := hide fun V => l1In_any m x2 z V
          have HC1 := hide hc1
          clear hc1 hc2 hc3 EX ex ez
          generalize lgs L m k = S at *
          generalize inB m x2 z = bb at Q2 HN
          go_upto_region 11 with (fail)
          refine wp_region_quiet_lit (by kernel_rfl) (by kernel_rfl) ?_
          repeat (go_big_quiet_step (fail))
          go_big_quiet_want
          go_big_quiet_op
          go_big_quiet_call (exact Calls.quiet_of_same (unhide Q2 _))
          repeat (go_big_quiet_step (fail))
          refine wpQuiet_nil ?_
          intro wq hw'
          obtain ⟨nq, hw''⟩ := hw'
          have HW2 : Hid (Below w.heap.size w wq) := by rw [hw'']; exact below_drewN (unhide HW) nq
          clear hw'' f2 g1 g2 g3
          have g1 := wcell3 (unhide HC1) (unhide HW2)
          cases bb with
          | true =>
            go_wp2
            go_roundg (L.length - (k + 1))
            case measure => omega
            case rel => exact ⟨HW2, k + 1, by omega, rfl, by go_num, by rw [unhide HN]; rfl⟩
          | false =>
            go_wp2
            go_roundg (L.length - (k + 1))
            case measure => omega
            case rel => exact ⟨HW2, k + 1, by omega, rfl, by go_num, by rw [unhide HN]; simp⟩
        · obtain rfl : k = L.length := by omega
          generalize lgs L m L.length = S at *
          by_cases hgt : B < S
          · have hmx : max B S = S := by omega
            rw [hmx] at HNi
            clear hmx
            have dg : decide (B < S) = true := decide_eq_true hgt
            go_wp2
            go_roundg (L.length - (i + 1))
            case measure => omega
            case rel => exact ⟨HW, i + 1, by omega, rfl, by go_num, by rw [unhide HNi]⟩
          · have hmx : max B S = B := by omega
            rw [hmx] at HNi
            clear hmx
            have dg : decide (B < S) = false := decide_eq_false hgt
            go_wp2
            go_roundg (L.length - (i + 1))
            case measure => omega
            case rel => exact ⟨HW, i + 1, by omega, rfl, by go_num, by rw [unhide HNi]⟩
    · obtain rfl : i = L.length := by omega
      go_wp2
      refine bodyPost_ret (v := .tuple #[.int .i64 (bdM L L.length), .bool true]) (by simp [results, Try.results35, go_sem]) rfl ⟨ret_ib17 (unhide HF), unhide HWo⟩

end Go.Proofs.Ytogoknldhimgfaa

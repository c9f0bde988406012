/- Contracts of both Starts. Written by wip/mkly.py. -/
import Derived.Test.YticminoejikdfaaLyO
import Derived.Test.YticminoejikdfaaEnB
import Derived.Deep.QuietTactic
import Derived.BigQuiet
namespace Go.Proofs.Yticminoejikdfaa
open Go.RowKit

set_option maxRecDepth 10000 in
set_option maxHeartbeats 4000000 in
theorem implStarts_any (n a d s x : Int) (v : Value) (L : List I2) (w : World) (h : R2 w v L) :
    Calls Try.prog 13 #[vCh n a d s, .int .i64 x, v] w fun e w' => e = .returned (.tuple #[.int .i64 (startV n a d s x L).1, .bool (startV n a d s x L).2]) ∧ Below w.heap.size w w' := by
  have HVL := hide h
  obtain ⟨ao, cap, rfl, hl, hm, hc⟩ := h
  unfold maxLen at hm
  have HC := hide hc
  clear hc
  have HO := hide (ownV_alloc w #[.int .i64 n, .int .i64 a, .int .i64 d, .int .i64 s] 25)
  have HW := hide (Below.alloc1 w (.cells #[.int .i64 n, .int .i64 a, .int .i64 d, .int .i64 s] 25))
  have HQC := hide fun V => implCharterOk_any n a d s V
  have HQMx := hide fun V => isMinute_any x V
  have HQSL := hide fun V (hV : Below w.heap.size w V) => implSpellsOk_any _ L V ((unhide HVL).below hV)
  unfold vCh at HQC ⊢
  cases hc0 : chB n a d s with
  | false =>
    rw [hc0] at HQC
    have HF := hide (startV_not (n := n) (a := a) (d := d) (s := s) (x := x) (L := L) fun h => chB_not hc0 h.1)
    go_enter Try.func13, Try.ntmps13
    go_wp2_with fail
    refine (unhide HQC _).mono ?_
    rintro e w1 ⟨rfl, hb⟩
    replace HO := hide ((unhide HO).step hb)
    replace HW := hide (Below.step (unhide HW) hb)
    clear hb
    clear HQC
    go_wp2
    refine bodyPost_ret (v := .tuple #[.int .i64 (-1), .bool false]) (by simp [results, Try.results13, go_sem]) rfl ⟨ret_ib (unhide HF), unhide HW⟩
  | true =>
  rw [hc0] at HQC
  cases hc1 : inB x 0 100000000 with
  | false =>
    rw [hc1] at HQMx
    have HF := hide (startV_not (n := n) (a := a) (d := d) (s := s) (x := x) (L := L) fun h => by have := h.2.1; rw [inB_mk (by omega) (by omega)] at hc1; cases hc1)
    go_enter Try.func13, Try.ntmps13
    go_wp2_with fail
    refine (unhide HQC _).mono ?_
    rintro e w1 ⟨rfl, hb⟩
    replace HO := hide ((unhide HO).step hb)
    replace HW := hide (Below.step (unhide HW) hb)
    clear hb
    clear HQC
    go_wp2_with fail
    refine (unhide HQMx _).mono ?_
    rintro e w9 ⟨rfl, h9⟩
    have h8 := h9.symm
    subst h8
    clear h9
    clear HQMx
    go_wp2
    refine bodyPost_ret (v := .tuple #[.int .i64 (-1), .bool false]) (by simp [results, Try.results13, go_sem]) rfl ⟨ret_ib (unhide HF), unhide HW⟩
  | true =>
  rw [hc1] at HQMx
  cases hc2 : spB L with
  | false =>
    rw [hc2] at HQSL
    have HF := hide (startV_not (n := n) (a := a) (d := d) (s := s) (x := x) (L := L) fun h => spB_not hc2 (h.2.2.1))
    go_enter Try.func13, Try.ntmps13
    go_wp2_with fail
    refine (unhide HQC _).mono ?_
    rintro e w1 ⟨rfl, hb⟩
    replace HO := hide ((unhide HO).step hb)
    replace HW := hide (Below.step (unhide HW) hb)
    clear hb
    clear HQC
    go_wp2_with fail
    refine (unhide HQMx _).mono ?_
    rintro e w9 ⟨rfl, h9⟩
    have h8 := h9.symm
    subst h8
    clear h9
    clear HQMx
    go_wp2_with fail
    refine (unhide HQSL _ (unhide HW)).mono ?_
    rintro e w3 ⟨rfl, hb⟩
    replace HO := hide ((unhide HO).step hb)
    replace HW := hide (Below.step (unhide HW) hb)
    clear hb
    clear HQSL
    go_wp2
    refine bodyPost_ret (v := .tuple #[.int .i64 (-1), .bool false]) (by simp [results, Try.results13, go_sem]) rfl ⟨ret_ib (unhide HF), unhide HW⟩
  | true =>
  rw [hc2] at HQSL
  go_enter Try.func13, Try.ntmps13
  go_wp2_with fail
  refine (unhide HQC _).mono ?_
  rintro e w1 ⟨rfl, hb⟩
  replace HO := hide ((unhide HO).step hb)
  replace HW := hide (Below.step (unhide HW) hb)
  clear hb
  clear HQC
  go_wp2_with fail
  refine (unhide HQMx _).mono ?_
  rintro e w9 ⟨rfl, h9⟩
  have h8 := h9.symm
  subst h8
  clear h9
  clear HQMx
  go_wp2_with fail
  refine (unhide HQSL _ (unhide HW)).mono ?_
  rintro e w3 ⟨rfl, hb⟩
  replace HO := hide ((unhide HO).step hb)
  replace HW := hide (Below.step (unhide HW) hb)
  clear hb
  clear HQSL
  have hch := chB_iff.1 hc0
  obtain ⟨⟨a0, a1⟩, -⟩ := hch
  obtain ⟨x0, x1⟩ := inB_true hc1
  have HS := hide (spB_iff.1 hc2)
  have HCH := hide (chB_iff.1 hc0)
  clear hc0 hc1 hc2
  have c0 := (unhide HO).cell (i := 0) rfl
  have hn : L.length ≤ 100 := (unhide HS).1
  clear HO HVL
  go_wp2

  go_loopg [8, 30] L.length (fun g bv i wr => Hid (Below w.heap.size w wr) ∧ ∃ k : Nat, k ≤ L.length ∧ g = L.length - k ∧ i = .int .i64 k ∧ bv = .int .i64 (stN L (x + n) k))
  case atStart => exact ⟨unhide HW, 0, Nat.zero_le _, rfl, rfl, rfl⟩
  case round =>
    clear HW c0
    obtain ⟨HW, k, hk, rfl, rfl, rfl⟩ := hrel
    have hbd := stN_bd (unhide HS) (b := x + n) (by omega) (by omega) k hk
    by_cases hkn : k < L.length
    · obtain ⟨b1, o, f, t, rfl, hx, hy, EX⟩ := rec2At (unhide HC) hkn
      have g0 := ((unhide HW).cell (lt_of_cell hx)).trans hx
      have g1 := ((unhide HW).cell (lt_of_cell hy)).trans hy
      have hki : (k : Int) < L.length := by omega
      obtain ⟨hx0, hxy, hy1, -⟩ := (unhide HS).2 k hkn
      unfold fr at hx0 hxy
      unfold tw at hxy hy1
      rw [unhide EX] at hx0 hxy hy1
      dsimp only at hx0 hxy hy1
      have EP : Hid (stN L (x + n) (k + 1) = if f ≤ stN L (x + n) k ∧ stN L (x + n) k < t then t else stN L (x + n) k) := by show _ = _; rw [stN]; unfold fr tw; rw [unhide EX]
      have HW1 := hide (Below.step (unhide HW) (Below.alloc1 wr (.cells #[.int .i64 f, .int .i64 t] 39)))
      generalize stN L (x + n) k = B at *
      obtain ⟨hb0, hb1⟩ := hbd
      clear hx hy EX
      by_cases h1 : f ≤ B
      · by_cases h2 : B < t
        · have em : max B t = t := by omega
          go_wp2
          go_roundg (L.length - (k + 1))
          case measure => omega
          case rel => exact ⟨unhide HW1, k + 1, by omega, rfl, by go_num, by rw [unhide EP, if_pos ⟨h1, h2⟩]⟩
        · have em : max B t = B := by omega
          go_wp2
          go_roundg (L.length - (k + 1))
          case measure => omega
          case rel => exact ⟨unhide HW1, k + 1, by omega, rfl, by go_num, by rw [unhide EP, if_neg (by omega)]⟩
      · go_wp2
        go_roundg (L.length - (k + 1))
        case measure => omega
        case rel => exact ⟨unhide HW1, k + 1, by omega, rfl, by go_num, by rw [unhide EP, if_neg (by omega)]⟩
    · obtain rfl : k = L.length := by omega
      have HQ := hide fun V => isMinute_any (stN L (x + n) L.length) V
      cases hz : inB (stN L (x + n) L.length) 0 100000000
      · rw [hz] at HQ
        have HF := hide (startV_not (n := n) (a := a) (d := d) (s := s) (x := x) (L := L) fun h => by have := h.2.2.2; rw [inB_mk (by omega) (by omega)] at hz; cases hz)
        go_wp2_with fail
        refine (unhide HQ _).mono ?_
        rintro e w9 ⟨rfl, h9⟩
        have h8 := h9.symm
        subst h8
        clear h9
        go_wp2
        refine bodyPost_ret (v := .tuple #[.int .i64 (-1), .bool false]) (by simp [results, Try.results13, go_sem]) rfl ⟨ret_ib (unhide HF), unhide HW⟩
      · rw [hz] at HQ
        have HF := hide (startV_yes (n := n) (a := a) (d := d) (s := s) (x := x) (L := L) ⟨unhide HCH, ⟨x0, x1⟩, unhide HS, (inB_true hz).2⟩)
        go_wp2_with fail
        refine (unhide HQ _).mono ?_
        rintro e w9 ⟨rfl, h9⟩
        have h8 := h9.symm
        subst h8
        clear h9
        go_wp2
        refine bodyPost_ret (v := .tuple #[.int .i64 (stN L (x + n) L.length), .bool true]) (by simp [results, Try.results13, go_sem]) rfl ⟨ret_ib (unhide HF), unhide HW⟩

set_option maxRecDepth 10000 in
set_option maxHeartbeats 4000000 in
theorem specStarts_any (n a d s x : Int) (v : Value) (L : List I2) (w : World) (h : R2 w v L) :
    Calls Try.prog 24 #[vCh n a d s, .int .i64 x, v] w fun e w' => e = .returned (.tuple #[.int .i64 (startV n a d s x L).1, .bool (startV n a d s x L).2]) ∧ Below w.heap.size w w' := by
  have HVL := hide h
  obtain ⟨ao, cap, rfl, hl, hm, hc⟩ := h
  unfold maxLen at hm
  have HC := hide hc
  clear hc
  have HO := hide (ownV_alloc w #[.int .i64 n, .int .i64 a, .int .i64 d, .int .i64 s] 25)
  have HW := hide (Below.alloc1 w (.cells #[.int .i64 n, .int .i64 a, .int .i64 d, .int .i64 s] 25))
  have HQC := hide fun V => specCharterOk_any n a d s V
  have HQMx := hide fun V => l1Minute_any x V
  have HQSL := hide fun V (hV : Below w.heap.size w V) => specSpellsOk_any _ L V ((unhide HVL).below hV)
  unfold vCh at HQC ⊢
  cases hc0 : chB n a d s with
  | false =>
    rw [hc0] at HQC
    have HF := hide (startV_not (n := n) (a := a) (d := d) (s := s) (x := x) (L := L) fun h => chB_not hc0 h.1)
    go_enter Try.func24, Try.ntmps24
    go_wp2_with fail
    refine (unhide HQC _).mono ?_
    rintro e w1 ⟨rfl, hb⟩
    replace HO := hide ((unhide HO).step hb)
    replace HW := hide (Below.step (unhide HW) hb)
    clear hb
    clear HQC
    go_wp2
    refine bodyPost_ret (v := .tuple #[.int .i64 (-1), .bool false]) (by simp [results, Try.results24, go_sem]) rfl ⟨ret_ib (unhide HF), unhide HW⟩
  | true =>
  rw [hc0] at HQC
  cases hc1 : inB x 0 100000000 with
  | false =>
    rw [hc1] at HQMx
    have HF := hide (startV_not (n := n) (a := a) (d := d) (s := s) (x := x) (L := L) fun h => by have := h.2.1; rw [inB_mk (by omega) (by omega)] at hc1; cases hc1)
    go_enter Try.func24, Try.ntmps24
    go_wp2_with fail
    refine (unhide HQC _).mono ?_
    rintro e w1 ⟨rfl, hb⟩
    replace HO := hide ((unhide HO).step hb)
    replace HW := hide (Below.step (unhide HW) hb)
    clear hb
    clear HQC
    go_wp2_with fail
    refine (unhide HQMx _).mono ?_
    rintro e w9 ⟨rfl, h9⟩
    have h8 := h9.symm
    subst h8
    clear h9
    clear HQMx
    go_wp2
    refine bodyPost_ret (v := .tuple #[.int .i64 (-1), .bool false]) (by simp [results, Try.results24, go_sem]) rfl ⟨ret_ib (unhide HF), unhide HW⟩
  | true =>
  rw [hc1] at HQMx
  cases hc2 : spB L with
  | false =>
    rw [hc2] at HQSL
    have HF := hide (startV_not (n := n) (a := a) (d := d) (s := s) (x := x) (L := L) fun h => spB_not hc2 (h.2.2.1))
    go_enter Try.func24, Try.ntmps24
    go_wp2_with fail
    refine (unhide HQC _).mono ?_
    rintro e w1 ⟨rfl, hb⟩
    replace HO := hide ((unhide HO).step hb)
    replace HW := hide (Below.step (unhide HW) hb)
    clear hb
    clear HQC
    go_wp2_with fail
    refine (unhide HQMx _).mono ?_
    rintro e w9 ⟨rfl, h9⟩
    have h8 := h9.symm
    subst h8
    clear h9
    clear HQMx
    go_wp2_with fail
    refine (unhide HQSL _ (unhide HW)).mono ?_
    rintro e w3 ⟨rfl, hb⟩
    replace HO := hide ((unhide HO).step hb)
    replace HW := hide (Below.step (unhide HW) hb)
    clear hb
    clear HQSL
    go_wp2
    refine bodyPost_ret (v := .tuple #[.int .i64 (-1), .bool false]) (by simp [results, Try.results24, go_sem]) rfl ⟨ret_ib (unhide HF), unhide HW⟩
  | true =>
  rw [hc2] at HQSL
  go_enter Try.func24, Try.ntmps24
  go_wp2_with fail
  refine (unhide HQC _).mono ?_
  rintro e w1 ⟨rfl, hb⟩
  replace HO := hide ((unhide HO).step hb)
  replace HW := hide (Below.step (unhide HW) hb)
  clear hb
  clear HQC
  go_wp2_with fail
  refine (unhide HQMx _).mono ?_
  rintro e w9 ⟨rfl, h9⟩
  have h8 := h9.symm
  subst h8
  clear h9
  clear HQMx
  go_wp2_with fail
  refine (unhide HQSL _ (unhide HW)).mono ?_
  rintro e w3 ⟨rfl, hb⟩
  replace HO := hide ((unhide HO).step hb)
  replace HW := hide (Below.step (unhide HW) hb)
  clear hb
  clear HQSL
  have hch := chB_iff.1 hc0
  obtain ⟨⟨a0, a1⟩, -⟩ := hch
  obtain ⟨x0, x1⟩ := inB_true hc1
  have HS := hide (spB_iff.1 hc2)
  have HCH := hide (chB_iff.1 hc0)
  clear hc0 hc1 hc2
  have c0 := (unhide HO).cell (i := 0) rfl
  have hn : L.length ≤ 100 := (unhide HS).1
  clear HO HVL
  go_wp2

  go_loopg [8, 9] L.length (fun g bv i wr => Hid (Below w.heap.size w wr) ∧ ∃ k : Nat, k ≤ L.length ∧ g = L.length - k ∧ i = .int .i64 k ∧ bv = .int .i64 (stN L (x + n) k))
  case atStart => exact ⟨unhide HW, 0, Nat.zero_le _, rfl, rfl, rfl⟩
  case round =>
    clear HW c0
    obtain ⟨HW, k, hk, rfl, rfl, rfl⟩ := hrel
    have hbd := stN_bd (unhide HS) (b := x + n) (by omega) (by omega) k hk
    by_cases hkn : k < L.length
    · obtain ⟨b1, o, f, t, rfl, hx, hy, EX⟩ := rec2At (unhide HC) hkn
      have g0 := ((unhide HW).cell (lt_of_cell hx)).trans hx
      have g1 := ((unhide HW).cell (lt_of_cell hy)).trans hy
      have hki : (k : Int) < L.length := by omega
      obtain ⟨hx0, hxy, hy1, -⟩ := (unhide HS).2 k hkn
      unfold fr at hx0 hxy
      unfold tw at hxy hy1
      rw [unhide EX] at hx0 hxy hy1
      dsimp only at hx0 hxy hy1
      have EP : Hid (stN L (x + n) (k + 1) = if f ≤ stN L (x + n) k ∧ stN L (x + n) k < t then t else stN L (x + n) k) := by show _ = _; rw [stN]; unfold fr tw; rw [unhide EX]
      have HW1 := hide (Below.step (unhide HW) (Below.alloc1 wr (.cells #[.int .i64 f, .int .i64 t] 39)))
      generalize stN L (x + n) k = B at *
      obtain ⟨hb0, hb1⟩ := hbd
      clear hx hy EX
      clear HW1
      have e1 : IntKind.i64.wrap (t - 1) = t - 1 := by rw [IntKind.wrap_i64]; omega
      have Q1 := hide fun V => l1In_any B f (t - 1) V
      have HX := hide fun q (hx0 : w.heap.size ≤ w.heap.size) => below_drewN (unhide HW) q
      clear HX
      cases h1 : inB B f (t - 1)
      · rw [h1] at Q1
        have hno : ¬ (f ≤ B ∧ B < t) := fun h => by rw [inB_mk h.1 (by omega)] at h1; cases h1
        go_wp2_with fail
        refine wp_region_quiet_lit (by kernel_rfl) (by kernel_rfl) ?_
        repeat (go_big_quiet_step (fail))
        go_big_quiet_want
        go_big_quiet_op
        go_big_quiet_call (exact Calls.quiet_of_same (unhide Q1 _))
        repeat (go_big_quiet_step (fail))
        refine wpQuiet_nil ?_
        intro _ hw'
        obtain ⟨nq, hw''⟩ := hw'
        subst hw''
        go_wp2
        go_roundg (L.length - (k + 1))
        case measure => omega
        case rel => exact ⟨below_drewN (unhide HW) _, k + 1, by omega, rfl, by go_num, by rw [unhide EP, if_neg hno]⟩
      · rw [h1] at Q1
        have hyes := inB_true h1
        go_wp2_with fail
        refine wp_region_quiet_lit (by kernel_rfl) (by kernel_rfl) ?_
        repeat (go_big_quiet_step (fail))
        go_big_quiet_want
        go_big_quiet_op
        go_big_quiet_call (exact Calls.quiet_of_same (unhide Q1 _))
        repeat (go_big_quiet_step (fail))
        refine wpQuiet_nil ?_
        intro _ hw'
        obtain ⟨nq, hw''⟩ := hw'
        subst hw''
        have f1 := ((below_drewN (Below.refl wr.heap.size wr) nq).cell (lt_of_cell g1)).trans g1
        go_wp2
        go_roundg (L.length - (k + 1))
        case measure => omega
        case rel => exact ⟨below_drewN (unhide HW) _, k + 1, by omega, rfl, by go_num, by rw [unhide EP, if_pos ⟨hyes.1, by omega⟩]⟩
    · obtain rfl : k = L.length := by omega
      have HQ := hide fun V => l1Minute_any (stN L (x + n) L.length) V
      cases hz : inB (stN L (x + n) L.length) 0 100000000
      · rw [hz] at HQ
        have HF := hide (startV_not (n := n) (a := a) (d := d) (s := s) (x := x) (L := L) fun h => by have := h.2.2.2; rw [inB_mk (by omega) (by omega)] at hz; cases hz)
        go_wp2_with fail
        refine (unhide HQ _).mono ?_
        rintro e w9 ⟨rfl, h9⟩
        have h8 := h9.symm
        subst h8
        clear h9
        go_wp2
        refine bodyPost_ret (v := .tuple #[.int .i64 (-1), .bool false]) (by simp [results, Try.results24, go_sem]) rfl ⟨ret_ib (unhide HF), unhide HW⟩
      · rw [hz] at HQ
        have HF := hide (startV_yes (n := n) (a := a) (d := d) (s := s) (x := x) (L := L) ⟨unhide HCH, ⟨x0, x1⟩, unhide HS, (inB_true hz).2⟩)
        go_wp2_with fail
        refine (unhide HQ _).mono ?_
        rintro e w9 ⟨rfl, h9⟩
        have h8 := h9.symm
        subst h8
        clear h9
        go_wp2
        refine bodyPost_ret (v := .tuple #[.int .i64 (stN L (x + n) L.length), .bool true]) (by simp [results, Try.results24, go_sem]) rfl ⟨ret_ib (unhide HF), unhide HW⟩


end Go.Proofs.Yticminoejikdfaa

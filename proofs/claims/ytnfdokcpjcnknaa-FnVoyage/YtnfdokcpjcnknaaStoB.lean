/- Stowage: the specification's l12At, l12Cold, l12Stack. Written by wip/mksto2.py. -/
import Derived.Test.YtnfdokcpjcnknaaStoA
import Derived.Test.YtnfdokcpjcnknaaRowB
namespace Go.Proofs.Ytnfdokcpjcnknaa
open Go.RowKit

theorem name_eq (a b : ByteArray) : (a.toList == b.toList) = decide (a = b) := by
  rw [ByteArray.toList_eq, ByteArray.toList_eq]
  by_cases h : a = b
  · subst h
    simp
  · have h' : a.data.toList ≠ b.data.toList := fun e => h (ByteArray.ext (Array.toList_inj.1 e))
    rw [decide_eq_false h]
    exact beq_eq_false_iff_ne.2 h'
theorem spot_eq {x y z x' y' z' : Int} : decide (x = x' ∧ y = y' ∧ z = z') = decide (((x, y, z) : I3) = (x', y', z')) := by
  rw [decide_eq_decide]
  simp

set_option maxHeartbeats 3200000 in
theorem l12At_any (v : Value) (L : List StowT) (x y z : Int) (w : World) (h : RStow w v L) :
    Calls Try.prog 14 #[v, v3 (x, y, z)] w fun e w' => e = .returned (.int .i64 (atV L (x, y, z))) ∧ Below w.heap.size w w' := by
  obtain ⟨ao, cap, rfl, hl, hm, hc⟩ := h
  unfold maxLen at hm
  have HC := hide hc
  clear hc
  unfold v3
  have HS0 := hide (ownV_alloc w #[.int .i64 x, .int .i64 y, .int .i64 z] 38)
  have HW0 := hide (Below.alloc1 w (.cells #[.int .i64 x, .int .i64 y, .int .i64 z] 38))
  have E1 : Hid ((∀ r, r < L.length → ssp (stO L r) ≠ (x, y, z)) → atV L (x, y, z) = -1) := atV_none
  have E2 : Hid (∀ k, k < L.length → ssp (stO L k) = (x, y, z) → (∀ r, r < k → ssp (stO L r) ≠ (x, y, z)) → atV L (x, y, z) = k) := fun k => atV_hit
  go_enter Try.func14, Try.ntmps14
  go_wp2
  go_loopg [5] L.length (fun g i wr => ∃ k : Nat, k ≤ L.length ∧ g = L.length - k ∧ i = .int .i64 k ∧ Hid (∀ r, r < k → ssp (stO L r) ≠ (x, y, z)) ∧ Hid (Below w.heap.size w wr) ∧ Hid (OwnV wr w.heap.size [.int .i64 x, .int .i64 y, .int .i64 z]))
  case atStart => exact ⟨0, Nat.zero_le _, rfl, rfl, fun r hr => by omega, unhide HW0, unhide HS0⟩
  case round =>
    obtain ⟨k, hk, rfl, rfl, HA, HW, HS⟩ := hrel
    clear HW0 HS0
    by_cases hkn : k < L.length
    · have HAk := hide (unhide E2 k hkn)
      obtain ⟨b, o, n0, wt, cl, co, fr, to, sx, sy, sz, rfl, hc0, hc1, hc2, hc3, hc4, hc5, hc6, hc7, hc8, EX⟩ := recStowAt (unhide HC) hkn
      have g0 := ((unhide HW).cell (lt_of_cell hc0)).trans hc0
      have g1 := ((unhide HW).cell (lt_of_cell hc1)).trans hc1
      have g2 := ((unhide HW).cell (lt_of_cell hc2)).trans hc2
      have g3 := ((unhide HW).cell (lt_of_cell hc3)).trans hc3
      have g4 := ((unhide HW).cell (lt_of_cell hc4)).trans hc4
      have g5 := ((unhide HW).cell (lt_of_cell hc5)).trans hc5
      have g6 := ((unhide HW).cell (lt_of_cell hc6)).trans hc6
      have g7 := ((unhide HW).cell (lt_of_cell hc7)).trans hc7
      have g8 := ((unhide HW).cell (lt_of_cell hc8)).trans hc8
      have ESP : Hid (ssp (stO L k) = (sx, sy, sz)) := by show _ = _; unfold stO; rw [unhide EX]; rfl
      have EBX : Hid (sbx (stO L k) = (n0, wt, cl, co, fr, to)) := by show _ = _; unfold stO; rw [unhide EX]; rfl
      clear hc0 hc1 hc2 hc3 hc4 hc5 hc6 hc7 hc8
      clear EX EBX
      rw [unhide ESP] at HAk
      have HA1 : Hid (((sx, sy, sz) : I3) ≠ (x, y, z) → ∀ r, r < k + 1 → ssp (stO L r) ≠ (x, y, z)) := fun h r hr => by
        by_cases e : r = k
        · rw [e, unhide ESP]; exact h
        · exact unhide HA r (by omega)
      have k0 := (unhide HS).cell (i := 0) rfl
      have k1 := (unhide HS).cell (i := 1) rfl
      have k2 := (unhide HS).cell (i := 2) rfl
      have hEq := eql_spot sx sy sz x y z
      have hGd := fun u v w => run_eqGuard_agg (P := Try.prog) w .eql 38 u v #[.int .i64 sx, .int .i64 sy, .int .i64 sz] #[.int .i64 x, .int .i64 y, .int .i64 z] Try.eqgSpot
      rw [spot_eq] at hEq
      have hki : (k : Int) < L.length := by omega
      clear ESP g0 g1 g2 g3 g4 g5
      by_cases hd : ((sx, sy, sz) : I3) = (x, y, z)
      · rw [decide_eq_true hd] at hEq
        have E := hide (unhide HAk hd (unhide HA))
        clear hd HAk HA1 E1 E2 HA
        go_wp2
        go_quiet (fail)
        go_wp2
        go_ret
        exact ⟨by rw [unhide E]; rfl, by first | exact unhide HW | exact below_drewN (unhide HW) _⟩
      · rw [decide_eq_false hd] at hEq
        replace HA1 := hide (unhide HA1 hd)
        clear hd HAk HA
        go_wp2
        go_quiet (fail)
        go_wp2
        go_roundg (L.length - (k + 1))
        case measure => omega
        case rel => first | exact ⟨k + 1, by omega, rfl, by go_num, unhide HA1, unhide HW, unhide HS⟩ | exact ⟨k + 1, by omega, rfl, by go_num, unhide HA1, below_drewN (unhide HW) _, unhide HS⟩
    · have hki : ¬ (k : Int) < L.length := by omega
      have hkk : k = L.length := by omega
      have E := hide (unhide E1 (by rw [← hkk]; exact unhide HA))
      clear hkk E1
      go_wp2
      go_ret
      exact ⟨by rw [unhide E]; rfl, unhide HW⟩

set_option maxHeartbeats 3200000 in
theorem l12Cold_any (v : Value) (L : List StowT) (x : Int) (w : World) (h : RStow w v L) :
    Calls Try.prog 49 #[v, .int .i64 x] w fun e w' => e = .returned (.int .i64 (cntTo (colB L x) L.length)) ∧ Below w.heap.size w w' := by
  obtain ⟨ao, cap, rfl, hl, hm, hc⟩ := h
  unfold maxLen at hm
  have HC := hide hc
  clear hc
  go_enter Try.func49, Try.ntmps49
  go_wp2
  go_loopg [5, 6] L.length (fun g nv i wr => ∃ (k q : Nat), k ≤ L.length ∧ g = L.length - k ∧ i = .int .i64 k ∧ nv = .int .i64 (q : Int) ∧ q ≤ k ∧ Hid (q = cntTo (colB L x) k) ∧ Hid (Below w.heap.size w wr))
  case atStart => exact ⟨0, 0, Nat.zero_le _, rfl, rfl, rfl, Nat.le_refl _, rfl, Below.refl _ _⟩
  case round =>
    obtain ⟨k, q, hk, rfl, rfl, rfl, hq, HQ, HW⟩ := hrel
    by_cases hkn : k < L.length
    · have HH : Hid (colB L x k = true → q + 1 = cntTo (colB L x) (k + 1)) := fun h => by rw [cntTo_hit h, ← unhide HQ]
      have HM : Hid (colB L x k = false → q = cntTo (colB L x) (k + 1)) := fun h => by rw [cntTo_miss h, ← unhide HQ]
      obtain ⟨b, o, n0, wt, cl, co, fr, to, sx, sy, sz, rfl, hc0, hc1, hc2, hc3, hc4, hc5, hc6, hc7, hc8, EX⟩ := recStowAt (unhide HC) hkn
      have g0 := ((unhide HW).cell (lt_of_cell hc0)).trans hc0
      have g1 := ((unhide HW).cell (lt_of_cell hc1)).trans hc1
      have g2 := ((unhide HW).cell (lt_of_cell hc2)).trans hc2
      have g3 := ((unhide HW).cell (lt_of_cell hc3)).trans hc3
      have g4 := ((unhide HW).cell (lt_of_cell hc4)).trans hc4
      have g5 := ((unhide HW).cell (lt_of_cell hc5)).trans hc5
      have g6 := ((unhide HW).cell (lt_of_cell hc6)).trans hc6
      have g7 := ((unhide HW).cell (lt_of_cell hc7)).trans hc7
      have g8 := ((unhide HW).cell (lt_of_cell hc8)).trans hc8
      have ESP : Hid (ssp (stO L k) = (sx, sy, sz)) := by show _ = _; unfold stO; rw [unhide EX]; rfl
      have EBX : Hid (sbx (stO L k) = (n0, wt, cl, co, fr, to)) := by show _ = _; unfold stO; rw [unhide EX]; rfl
      clear hc0 hc1 hc2 hc3 hc4 hc5 hc6 hc7 hc8
      have EC : Hid (colB L x k = (decide (sx = x) && co)) := by show _ = _; unfold colB coS; rw [unhide ESP]; unfold stO; rw [unhide EX]
      rw [unhide EC] at HH HM
      have hki : (k : Int) < L.length := by omega
      clear EX EBX ESP EC g0 g1 g2 g4 g5
      by_cases hx : sx = x
      · have hxx : (sx == x) = true := by simp [hx]
        have hxd : decide (sx = x) = true := by simp [hx]
        rw [hxd] at HH HM
        have HX := hide hx
        clear hx
        cases co with
        | true =>
          replace HH := hide (unhide HH rfl)
          have q1 : IntKind.i64.wrap ((q : Int) + 1) = ((q + 1 : Nat) : Int) := by rw [IntKind.wrap_i64]; omega
          clear HM HQ
          go_wp2
          go_roundg (L.length - (k + 1))
          case measure => omega
          case rel => first | exact ⟨k + 1, q + 1, by omega, rfl, by go_num, by go_num, by omega, unhide HH, unhide HW⟩ | exact ⟨k + 1, q + 1, by omega, rfl, by go_num, rfl, by omega, unhide HH, unhide HW⟩
        | false =>
          replace HM := hide (unhide HM rfl)
          clear HH HQ
          go_wp2
          go_roundg (L.length - (k + 1))
          case measure => omega
          case rel => exact ⟨k + 1, q, by omega, rfl, by go_num, rfl, by omega, unhide HM, unhide HW⟩
      · have hxx : (sx == x) = false := by simp [hx]
        have hxd : decide (sx = x) = false := by simp [hx]
        rw [hxd] at HH HM
        replace HM := hide (unhide HM rfl)
        clear HH HQ
        go_wp2
        go_roundg (L.length - (k + 1))
        case measure => omega
        case rel => exact ⟨k + 1, q, by omega, rfl, by go_num, rfl, by omega, unhide HM, unhide HW⟩
    · have hki : ¬ (k : Int) < L.length := by omega
      have hkk : k = L.length := by omega
      have E := hide (unhide HQ)
      rw [hkk] at E
      clear hkk HQ
      go_wp2
      go_ret
      exact ⟨by rw [unhide E]; rfl, unhide HW⟩

set_option maxRecDepth 10000 in
set_option maxHeartbeats 6400000 in
theorem l12Stack_any (v : Value) (L : List StowT) (x y : Int) (w : World) (h : RStow w v L) :
    Calls Try.prog 31 #[v, .int .i64 x, .int .i64 y] w fun e w' => ∃ ao m cap, e = .returned (.slice ao m cap) ∧ RowB 36 6 eBox w.heap.size w' ao m cap (stkL L x y) ∧ m ≤ 20 ∧ Below w.heap.size w w' := by
  have HR := hide h
  obtain ⟨ao, cap, rfl, hl, hm, hc⟩ := h
  unfold maxLen at hm
  have HC := hide hc
  clear hc
  have HN := hide (rowB_new 36 6 eBox w w.heap.size (Nat.le_refl _))
  have HW0 := hide (Below.alloc1 w (.cells #[] 36))
  have E0 : Hid (stkL L x y = stkT L x y 20) := rfl
  go_enter Try.func31, Try.ntmps31
  go_wp2
  go_loopg [7, 8, 9] 20 (fun g ov i kv wr => ∃ (t m c : Nat) (ro : Option Addr), t ≤ 20 ∧ g = 20 - t ∧ i = .int .i64 t ∧ ov = .slice ro m c ∧ m ≤ t ∧ Hid (RowB 36 6 eBox w.heap.size wr ro m c (stkT L x y t)) ∧ Hid (Below w.heap.size w wr))
  case atStart => exact ⟨0, 0, 0, _, Nat.zero_le _, rfl, rfl, rfl, Nat.le_refl _, unhide HN, unhide HW0⟩
  case round =>
    clear HN HW0
    obtain ⟨t, m, c, ro, ht, rfl, rfl, rfl, hmt, HL, HW⟩ := hrel
    by_cases htn : t < 20
    · have QA := hide fun V (hV : RStow V (.slice ao L.length cap) L) => l12At_any _ L x y (t : Int) V hV
      have hti : (t : Int) < 20 := by omega
      have HBD := hide (atV_bd L (x, y, (t : Int)))
      have EH : Hid (hasB L (x, y, (t : Int)) = true → stkT L x y (t + 1) = stkT L x y t ++ [sbx (stO L (atV L (x, y, (t : Int))).toNat)]) := fun h => by rw [stkT, tierO, if_pos h]
      have EM : Hid (hasB L (x, y, (t : Int)) = false → stkT L x y (t + 1) = stkT L x y t) := fun h => by rw [stkT, tierO, if_neg (by rw [h]; decide), List.append_nil]
      have EV := hide fun h => atV_has (L := L) (s := (x, y, (t : Int))) h
      have EN : Hid (hasB L (x, y, (t : Int)) = false → atV L (x, y, (t : Int)) = -1) := atV_not
      unfold v3 at QA
      go_wp2_with fail
      refine (unhide QA _ ((unhide HR).below (unhide HW))).mono ?_
      rintro e w1 ⟨rfl, hb⟩
      replace HW := hide (Below.step (unhide HW) hb)
      replace HL := hide ((unhide HL).below hb)
      clear hb QA
      cases hh : hasB L (x, y, (t : Int)) with
      | true =>
        obtain ⟨k, hkn, _, ek, _⟩ := unhide EV hh
        replace EH := hide (unhide EH hh)
        rw [ek] at EH ⊢
        rw [Int.toNat_natCast] at EH
        have hk0 : (0 : Int) ≤ (k : Int) := by omega
        have hki : (k : Int) < L.length := by omega
        clear EM EV EN HBD hh ek
        obtain ⟨b, o, n0, wt, cl, co, fr, to, sx, sy, sz, rfl, hc0, hc1, hc2, hc3, hc4, hc5, hc6, hc7, hc8, EX⟩ := recStowAt (unhide HC) hkn
        have g0 := ((unhide HW).cell (lt_of_cell hc0)).trans hc0
        have g1 := ((unhide HW).cell (lt_of_cell hc1)).trans hc1
        have g2 := ((unhide HW).cell (lt_of_cell hc2)).trans hc2
        have g3 := ((unhide HW).cell (lt_of_cell hc3)).trans hc3
        have g4 := ((unhide HW).cell (lt_of_cell hc4)).trans hc4
        have g5 := ((unhide HW).cell (lt_of_cell hc5)).trans hc5
        have g6 := ((unhide HW).cell (lt_of_cell hc6)).trans hc6
        have g7 := ((unhide HW).cell (lt_of_cell hc7)).trans hc7
        have g8 := ((unhide HW).cell (lt_of_cell hc8)).trans hc8
        have ESP : Hid (ssp (stO L k) = (sx, sy, sz)) := by show _ = _; unfold stO; rw [unhide EX]; rfl
        have EBX : Hid (sbx (stO L k) = (n0, wt, cl, co, fr, to)) := by show _ = _; unfold stO; rw [unhide EX]; rfl
        clear hc0 hc1 hc2 hc3 hc4 hc5 hc6 hc7 hc8
        rw [unhide EBX] at EH
        have hA := Below.alloc1 w1 (.cells #[.string n0, .int .i64 wt, .int .i64 cl, .bool co, .int .i64 fr, .int .i64 to] 36)
        have HG := hide (ownV_alloc w1 #[.string n0, .int .i64 wt, .int .i64 cl, .bool co, .int .i64 fr, .int .i64 to] 36)
        replace HW := hide (Below.step (unhide HW) hA)
        replace HL := hide ((unhide HL).below hA)
        have hws := (unhide HW).size
        clear EX EBX ESP hA g6 g7 g8
        go_wp2_with (at_builtin; go_must (refine wpList_appRow tyBox _ rfl _ _ rfl w.heap.size ro m c (stkT L x y t) rfl (unhide HL) hws (by omega) w1.heap.size (n0, wt, cl, co, fr, to) 1 rfl (unhide HG) ?_); intro g' cap' w2 hL hK hBg hat; have HL1 := hide hL; have HK := hide hK; clear hL hK hat)
        go_roundg (20 - (t + 1))
        case measure => omega
        case rel =>
          refine ⟨t + 1, m + 1, cap', _, by omega, rfl, by go_num, rfl, by omega, ?_, ?_⟩
          · rw [unhide EH]; exact unhide HL1
          · refine Below.trans (unhide HW) ((unhide HK).below hws (fun q hq => ?_))
            rcases (unhide HL).parts (by decide) with ⟨e, _⟩ | ⟨g, e, hg, _⟩
            · rw [hq] at e; cases e
            · rw [hq] at e; simp only [Option.some.injEq, Addr.mk.injEq, and_true] at e; omega
      | false =>
        replace EM := hide (unhide EM hh)
        have en := unhide EN hh
        rw [en]
        clear EH EV EN hh en HBD
        go_wp2
        go_roundg (20 - (t + 1))
        case measure => omega
        case rel => exact ⟨t + 1, m, c, ro, by omega, rfl, by go_num, rfl, by omega, by rw [unhide EM]; exact unhide HL, unhide HW⟩
    · have hti : ¬ (t : Int) < 20 := by omega
      have htt : t = 20 := by omega
      have HL1 : Hid (RowB 36 6 eBox w.heap.size wr ro m c (stkL L x y)) := by
        have h := unhide HL
        rw [htt] at h
        exact h
      clear HL htt
      go_wp2
      go_ret
      exact ⟨ro, m, c, rfl, unhide HL1, by omega, unhide HW⟩

end Go.Proofs.Ytnfdokcpjcnknaa

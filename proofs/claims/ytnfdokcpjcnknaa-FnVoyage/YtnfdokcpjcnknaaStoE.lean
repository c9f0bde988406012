/- Stowage: the program's isTaken, stackAt. Written by wip/mksto2.py. -/
import Derived.Test.YtnfdokcpjcnknaaStoB
namespace Go.Proofs.Ytnfdokcpjcnknaa
open Go.RowKit

theorem recs_take {α : Type} [Inhabited α] {n : Nat} {enc : α → Nat → Value} {w : World} {ao : Option Addr} {N cap m : Nat} {L : List α} (h : RecsIn n enc w (.slice ao N cap) L) (hm : m ≤ N) : RecsIn n enc w (.slice ao m cap) (L.take m) := by
  obtain ⟨ao', cap', e, hl, hc, hx⟩ := h
  simp only [Value.slice.injEq] at e
  obtain ⟨rfl, rfl, rfl⟩ := e
  have hlen : (L.take m).length = m := by rw [List.length_take]; omega
  refine ⟨_, _, by rw [hlen], by omega, hc, fun i hi => ?_⟩
  rw [hlen] at hi
  obtain ⟨b, o, e, hy⟩ := hx i (by omega)
  refine ⟨b, o, e, fun j hj => ?_⟩
  rw [hy j hj]
  congr 2
  simp [List.getD, hi]
theorem stO_take {L : List StowT} {i k : Nat} (hk : k < i) : stO (L.take i) k = stO L k := by
  simp [stO, List.getD, hk]
theorem hasB_take {L : List StowT} {s : I3} {i : Nat} (hi : i ≤ L.length) : hasB (L.take i) s = decide (∃ k, k < i ∧ ssp (stO L k) = s) := by
  unfold hasB
  rw [decide_eq_decide, List.length_take, Nat.min_eq_left hi]
  constructor
  · rintro ⟨k, hk, e⟩
    exact ⟨k, hk, by rw [stO_take hk] at e; exact e⟩
  · rintro ⟨k, hk, e⟩
    exact ⟨k, hk, by rw [stO_take hk]; exact e⟩

set_option maxRecDepth 10000 in
set_option maxHeartbeats 3200000 in
theorem isTaken_any (v : Value) (L : List StowT) (x y z : Int) (w : World) (h : RStow w v L) :
    Calls Try.prog 51 #[v3 (x, y, z), v] w fun e w' => e = .returned (.bool (hasB L (x, y, z))) ∧ Below w.heap.size w w' := by
  obtain ⟨ao, cap, rfl, hl, hm, hc⟩ := h
  unfold maxLen at hm
  have HC := hide hc
  clear hc
  unfold v3
  have HS0 := hide (ownV_alloc w #[.int .i64 x, .int .i64 y, .int .i64 z] 38)
  have HW0 := hide (Below.alloc1 w (.cells #[.int .i64 x, .int .i64 y, .int .i64 z] 38))
  have E1 : Hid ((∀ r, r < L.length → ssp (stO L r) ≠ (x, y, z)) → hasB L (x, y, z) = false) := hasB_none
  have E2 : Hid (∀ k, k < L.length → ssp (stO L k) = (x, y, z) → hasB L (x, y, z) = true) := fun k => hasB_hit
  go_enter Try.func51, Try.ntmps51
  go_wp2
  go_loopg [9] L.length (fun g i wr => ∃ k : Nat, k ≤ L.length ∧ g = L.length - k ∧ i = .int .i64 k ∧ Hid (∀ r, r < k → ssp (stO L r) ≠ (x, y, z)) ∧ Hid (Below w.heap.size w wr) ∧ Hid (OwnV wr w.heap.size [.int .i64 x, .int .i64 y, .int .i64 z]))
  case atStart => exact ⟨0, Nat.zero_le _, rfl, rfl, fun r hr => by omega, unhide HW0, unhide HS0⟩
  case round =>
    obtain ⟨k, hk, rfl, rfl, HA, HW, HS⟩ := hrel
    clear HW0 HS0
    by_cases hkn : k < L.length
    · have HAk := hide (unhide E2 k hkn)
      obtain ⟨b, o, n0, wt, cl, co, fr, to, sx, sy, sz, rfl, hc0, hc1, hc2, hc3, hc4, hc5, hc6, hc7, hc8, EX⟩ := recStowAt (unhide HC) hkn
      have g0 := ((unhide HW).cell (lt_of_cell hc0)).trans hc0
      have g1 := ((unhide HW).cell (lt_of_cell hc1)).trans hc1
      have g2 := ((unhide HW).cell (lt_of_cell hc2)).trans hc2
      have g3 := ((unhide HW).cell (lt_of_cell hc3)).trans hc3
      have g4 := ((unhide HW).cell (lt_of_cell hc4)).trans hc4
      have g5 := ((unhide HW).cell (lt_of_cell hc5)).trans hc5
      have g6 := ((unhide HW).cell (lt_of_cell hc6)).trans hc6
      have g7 := ((unhide HW).cell (lt_of_cell hc7)).trans hc7
      have g8 := ((unhide HW).cell (lt_of_cell hc8)).trans hc8
      have ESP : Hid (ssp (stO L k) = (sx, sy, sz)) := by show _ = _; unfold stO; rw [unhide EX]; rfl
      have EBX : Hid (sbx (stO L k) = (n0, wt, cl, co, fr, to)) := by show _ = _; unfold stO; rw [unhide EX]; rfl
      clear hc0 hc1 hc2 hc3 hc4 hc5 hc6 hc7 hc8
      clear EX EBX
      rw [unhide ESP] at HAk
      have HA1 : Hid (((sx, sy, sz) : I3) ≠ (x, y, z) → ∀ r, r < k + 1 → ssp (stO L r) ≠ (x, y, z)) := fun h r hr => by
        by_cases e : r = k
        · rw [e, unhide ESP]; exact h
        · exact unhide HA r (by omega)
      have hA := Below.alloc1 wr (.cells #[.string n0, .int .i64 wt, .int .i64 cl, .bool co, .int .i64 fr, .int .i64 to, .int .i64 sx, .int .i64 sy, .int .i64 sz] 40)
      have HW1 := hide (Below.step (unhide HW) hA)
      have HS1 := hide ((unhide HS).step hA)
      have k0 := (unhide HS1).cell (i := 0) rfl
      have k1 := (unhide HS1).cell (i := 1) rfl
      have k2 := (unhide HS1).cell (i := 2) rfl
      have hEq := eql_spot sx sy sz x y z
      have hGd := fun u v w => run_eqGuard_agg (P := Try.prog) w .eql 38 u v #[.int .i64 sx, .int .i64 sy, .int .i64 sz] #[.int .i64 x, .int .i64 y, .int .i64 z] Try.eqgSpot
      rw [spot_eq] at hEq
      have hki : (k : Int) < L.length := by omega
      clear ESP hA HW HS
      by_cases hd : ((sx, sy, sz) : I3) = (x, y, z)
      · rw [decide_eq_true hd] at hEq
        have E := hide (unhide HAk hd)
        clear hd HAk HA1 E1 E2 HA
        go_wp2
        go_ret
        exact ⟨by rw [unhide E]; rfl, unhide HW1⟩
      · rw [decide_eq_false hd] at hEq
        replace HA1 := hide (unhide HA1 hd)
        clear hd HAk HA
        go_wp2
        go_roundg (L.length - (k + 1))
        case measure => omega
        case rel => exact ⟨k + 1, by omega, rfl, by go_num, unhide HA1, unhide HW1, unhide HS1⟩
    · have hki : ¬ (k : Int) < L.length := by omega
      have hkk : k = L.length := by omega
      have E := hide (unhide E1 (by rw [← hkk]; exact unhide HA))
      clear hkk E1
      go_wp2
      go_ret
      exact ⟨by rw [unhide E]; rfl, unhide HW⟩

set_option maxRecDepth 10000 in
set_option maxHeartbeats 6400000 in
theorem stackAt_any (v : Value) (L : List StowT) (x y : Int) (w : World) (h : RStow w v L) (hl40 : L.length ≤ 40) :
    Calls Try.prog 58 #[v, .int .i64 x, .int .i64 y] w fun e w' => ∃ ao m cap, e = .returned (.slice ao m cap) ∧ RowB 36 6 eBox w.heap.size w' ao m cap (pkT L x y 6) ∧ Below w.heap.size w w' := by
  have HR := hide h
  obtain ⟨ao, cap, rfl, hl, hm, hc⟩ := h
  unfold maxLen at hm
  have HC := hide hc
  clear hc
  have HN := hide (rowB_nil 36 6 eBox w.heap.size w)
  go_enter Try.func58, Try.ntmps58
  go_wp2
  go_loopg [7, 11] 6 (fun g ov tv wr => ∃ (t m c : Nat) (ro : Option Addr), t ≤ 6 ∧ g = 6 - t ∧ tv = .int .i64 t ∧ ov = .slice ro m c ∧ m ≤ t * 40 ∧ Hid (RowB 36 6 eBox w.heap.size wr ro m c (pkT L x y t)) ∧ Hid (Below w.heap.size w wr))
  case atStart => exact ⟨0, 0, 0, none, Nat.zero_le _, rfl, rfl, rfl, Nat.zero_le _, unhide HN, Below.refl _ _⟩
  case round =>
    clear HN
    obtain ⟨t, m, c, ro, ht, rfl, rfl, rfl, hmt, HL, HW⟩ := hrel
    by_cases htn : t < 6
    · have hti : (t : Int) < 6 := by omega
      have EP : Hid (pkT L x y (t + 1) = pkT L x y t ++ pkO L x y t L.length) := rfl
      have HL0 : Hid (RowB 36 6 eBox w.heap.size wr ro m c (pkT L x y t ++ pkO L x y t 0)) := by
        show RowB _ _ _ _ _ _ _ _ _
        rw [show pkO L x y t 0 = [] from rfl, List.append_nil]
        exact unhide HL
      clear HL
      go_wp2
      generalize wr = w2 at *
      go_loopg [7, 16] L.length (fun g ov kv wr => ∃ (k m1 c1 : Nat) (r1 : Option Addr), k ≤ L.length ∧ g = L.length - k ∧ kv = .int .i64 k ∧ ov = .slice r1 m1 c1 ∧ m1 ≤ t * 40 + k ∧ Hid (RowB 36 6 eBox w.heap.size wr r1 m1 c1 (pkT L x y t ++ pkO L x y t k)) ∧ Hid (Below w.heap.size w wr))
      case atStart => exact ⟨0, m, c, ro, Nat.zero_le _, rfl, rfl, rfl, hmt, unhide HL0, unhide HW⟩
      case round =>
        clear HL0 HW hmt
        obtain ⟨k, m1, c1, r1, hk, rfl, rfl, rfl, hmt, HL, HW⟩ := hrel
        by_cases hkn : k < L.length
        · have EH : Hid (ssp (stO L k) = (x, y, (t : Int)) → pkT L x y t ++ pkO L x y t (k + 1) = (pkT L x y t ++ pkO L x y t k) ++ [sbx (stO L k)]) := fun h => by rw [pkO, if_pos h, List.append_assoc]
          have EM : Hid (ssp (stO L k) ≠ (x, y, (t : Int)) → pkT L x y t ++ pkO L x y t (k + 1) = pkT L x y t ++ pkO L x y t k) := fun h => by rw [pkO, if_neg h, List.append_nil]
          obtain ⟨b, o, n0, wt, cl, co, fr, to, sx, sy, sz, rfl, hc0, hc1, hc2, hc3, hc4, hc5, hc6, hc7, hc8, EX⟩ := recStowAt (unhide HC) hkn
          have g0 := ((unhide HW).cell (lt_of_cell hc0)).trans hc0
          have g1 := ((unhide HW).cell (lt_of_cell hc1)).trans hc1
          have g2 := ((unhide HW).cell (lt_of_cell hc2)).trans hc2
          have g3 := ((unhide HW).cell (lt_of_cell hc3)).trans hc3
          have g4 := ((unhide HW).cell (lt_of_cell hc4)).trans hc4
          have g5 := ((unhide HW).cell (lt_of_cell hc5)).trans hc5
          have g6 := ((unhide HW).cell (lt_of_cell hc6)).trans hc6
          have g7 := ((unhide HW).cell (lt_of_cell hc7)).trans hc7
          have g8 := ((unhide HW).cell (lt_of_cell hc8)).trans hc8
          have ESP : Hid (ssp (stO L k) = (sx, sy, sz)) := by show _ = _; unfold stO; rw [unhide EX]; rfl
          have EBX : Hid (sbx (stO L k) = (n0, wt, cl, co, fr, to)) := by show _ = _; unfold stO; rw [unhide EX]; rfl
          clear hc0 hc1 hc2 hc3 hc4 hc5 hc6 hc7 hc8
          rw [unhide ESP, unhide EBX] at EH
          rw [unhide ESP] at EM
          have hA := Below.alloc1 wr (.cells #[.string n0, .int .i64 wt, .int .i64 cl, .bool co, .int .i64 fr, .int .i64 to, .int .i64 sx, .int .i64 sy, .int .i64 sz] 40)
          have HX := hide (ownV_alloc wr #[.string n0, .int .i64 wt, .int .i64 cl, .bool co, .int .i64 fr, .int .i64 to, .int .i64 sx, .int .i64 sy, .int .i64 sz] 40)
          have HW1 := hide (Below.step (unhide HW) hA)
          have HL1 := hide ((unhide HL).below hA)
          have hEq := eql_spot sx sy sz x y (t : Int)
          have hGd := fun u v w => run_eqGuard_agg (P := Try.prog) w .eql 38 u v #[.int .i64 sx, .int .i64 sy, .int .i64 sz] #[.int .i64 x, .int .i64 y, .int .i64 (t : Int)] Try.eqgSpot
          rw [spot_eq] at hEq
          have hki : (k : Int) < L.length := by omega
          clear ESP EBX EX hA HW HL
          by_cases hd : ((sx, sy, sz) : I3) = (x, y, (t : Int))
          · rw [decide_eq_true hd] at hEq
            replace EH := hide (unhide EH hd)
            clear hd EM
            obtain ⟨V1, eV⟩ : ∃ V, V = wr.alloc (.cells #[.string n0, .int .i64 wt, .int .i64 cl, .bool co, .int .i64 fr, .int .i64 to, .int .i64 sx, .int .i64 sy, .int .i64 sz] 40) := ⟨_, rfl⟩
            rw [← eV] at HX HW1 HL1
            have hA2 := Below.alloc1 V1 (.cells #[.string n0, .int .i64 wt, .int .i64 cl, .bool co, .int .i64 fr, .int .i64 to] 36)
            have HG : Hid (OwnV (V1.alloc (.cells #[.string n0, .int .i64 wt, .int .i64 cl, .bool co, .int .i64 fr, .int .i64 to] 36)) (wr.heap.size + 1) [.string n0, .int .i64 wt, .int .i64 cl, .bool co, .int .i64 fr, .int .i64 to]) := by
              have h := ownV_alloc V1 #[.string n0, .int .i64 wt, .int .i64 cl, .bool co, .int .i64 fr, .int .i64 to] 36
              rw [eV] at h ⊢
              simp only [World.size_alloc] at h
              exact h
            replace HW1 := hide (Below.step (unhide HW1) hA2)
            replace HL1 := hide ((unhide HL1).below hA2)
            have hws := (unhide HW1).size
            have x0 := (unhide HX).cell (i := 0) rfl
            clear hA2 x0
            subst eV
            go_wp2_with (at_builtin; go_must (refine wpList_appRow tyBox _ rfl _ _ rfl w.heap.size r1 m1 c1 (pkT L x y t ++ pkO L x y t k) rfl (unhide HL1) hws (by omega) (wr.heap.size + 1) (n0, wt, cl, co, fr, to) 1 rfl (unhide HG) ?_); intro g' cap' w3 hL hK hBg hat; have HL2 := hide hL; have HK := hide hK; clear hL hK hat)
            go_roundg (L.length - (k + 1))
            case measure => omega
            case rel =>
              refine ⟨k + 1, m1 + 1, cap', _, by omega, rfl, by go_num, rfl, by omega, ?_, ?_⟩
              · rw [unhide EH]; exact unhide HL2
              · refine Below.trans (unhide HW1) ((unhide HK).below hws (fun q hq => ?_))
                rcases (unhide HL1).parts (by decide) with ⟨e, _⟩ | ⟨g, e, hg, _⟩
                · rw [hq] at e; cases e
                · rw [hq] at e; simp only [Option.some.injEq, Addr.mk.injEq, and_true] at e; omega
          · rw [decide_eq_false hd] at hEq
            replace EM := hide (unhide EM hd)
            clear hd EH
            go_wp2
            go_roundg (L.length - (k + 1))
            case measure => omega
            case rel => exact ⟨k + 1, m1, c1, r1, by omega, rfl, by go_num, rfl, by omega, by rw [unhide EM]; exact unhide HL1, unhide HW1⟩
        · have hki : ¬ (k : Int) < L.length := by omega
          have HL1 : Hid (RowB 36 6 eBox w.heap.size wr r1 m1 c1 (pkT L x y (t + 1))) := by
            have h := unhide HL
            rw [show k = L.length by omega] at h
            rw [unhide EP]
            exact h
          clear HL
          go_wp2
          go_roundg (6 - (t + 1))
          case measure => omega
          case rel => exact ⟨t + 1, m1, c1, r1, by omega, rfl, by go_num, rfl, by omega, unhide HL1, unhide HW⟩
    · have hti : ¬ (t : Int) < 6 := by omega
      have HL1 : Hid (RowB 36 6 eBox w.heap.size wr ro m c (pkT L x y 6)) := by
        have h := unhide HL
        rw [show t = 6 by omega] at h
        exact h
      clear HL
      go_wp2
      go_ret
      exact ⟨ro, m, c, rfl, unhide HL1, unhide HW⟩

end Go.Proofs.Ytnfdokcpjcnknaa

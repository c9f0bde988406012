/- Boxes: stacks and lashings in numbers; the program's stackedOk, StackOk, Lashes. Written by wip/mkbxh.py. -/
import Derived.Test.YtnfdokcpjcnknaaBxG
import Derived.Test.YtnfdokcpjcnknaaWalkH
namespace Go.Proofs.Ytnfdokcpjcnknaa
open Go.RowKit

def wtO (L : List BoxT) (k : Nat) : Int := (L.getD k default).2.1
def coO (L : List BoxT) (k : Nat) : Bool := (L.getD k default).2.2.2.1
def okO (L : List BoxT) (k : Nat) : Bool := boxT (L.getD k default)
def stGood (L : List BoxT) (k : Nat) : Prop := okO L k = true ∧ (0 < k → wtO L k ≤ wtO L (k - 1)) ∧ (coO L k = true → k ≤ 1)
instance (L : List BoxT) (k : Nat) : Decidable (stGood L k) := by unfold stGood; infer_instance
def stk1 (L : List BoxT) : Bool := decide (L.length ≤ 20 ∧ ∀ k, k < L.length → okO L k = true)
def stk2 (L : List BoxT) : Bool := decide (L.length ≤ 20 ∧ ∀ k, k < L.length → stGood L k)
def stackB (L : List BoxT) (most : Int) : Bool := stk2 L && inB most 0 1000000 && decide (sumTo (wtO L) L.length ≤ most)
def needV (f : Int) : Int := if f ≤ 0 then 0 else (f + 499) / 500
def lashK (L : List BoxT) (wind : Int) (k : Nat) : Int := needV (100 * wind * ((L.length : Int) - (k : Int)) - sumTo (wtO L) (k + 1) / 10)
def lashV (L : List BoxT) (wind : Int) : Int := sumTo (lashK L wind) L.length
def lashB (L : List BoxT) (wind : Int) : Bool := stk1 L && inB wind 0 100
def lashC (L : List BoxT) (wind : Int) : Int := if lashB L wind = true then lashV L wind else 0

theorem okO_wt {L : List BoxT} {k : Nat} (h : okO L k = true) : 1 ≤ wtO L k ∧ wtO L k ≤ 40000 := boxB_wt h
theorem okO_cl {L : List BoxT} {k : Nat} (h : okO L k = true) : inB (L.getD k default).2.2.1 0 9 = true := boxB_cl h
theorem sumW_bd {L : List BoxT} {m : Nat} (h : ∀ r, r < m → okO L r = true) (hm : m ≤ 20) : ∀ k, k ≤ m → 0 ≤ sumTo (wtO L) k ∧ sumTo (wtO L) k ≤ 800000 := by
  intro k hk
  have := sumTo_bd (f := wtO L) (B := 40000) (n := m) (fun i hi => by have := okO_wt (h i hi); omega) k hk
  omega
theorem stk1_long {L : List BoxT} (h : ¬ L.length ≤ 20) : stk1 L = false := by
  simp only [stk1, decide_eq_false_iff_not]
  exact fun h' => h h'.1
theorem stk1_bad {L : List BoxT} {k : Nat} (hk : k < L.length) (h : okO L k = false) : stk1 L = false := by
  simp only [stk1, decide_eq_false_iff_not]
  intro h'
  have := h'.2 k hk
  rw [h] at this
  cases this
theorem stk1_all {L : List BoxT} (h : L.length ≤ 20) (h2 : ∀ k, k < L.length → okO L k = true) : stk1 L = true := by
  simp only [stk1, decide_eq_true_eq]
  exact ⟨h, h2⟩
theorem stk1_len {L : List BoxT} (h : stk1 L = true) : L.length ≤ 20 ∧ ∀ k, k < L.length → okO L k = true := by
  simpa only [stk1, decide_eq_true_eq] using h
theorem stk2_bad {L : List BoxT} {k : Nat} (hk : k < L.length) (h : ¬ stGood L k) : stk2 L = false := by
  simp only [stk2, decide_eq_false_iff_not]
  exact fun h' => h (h'.2 k hk)
theorem stk2_all {L : List BoxT} (h : L.length ≤ 20) (h2 : ∀ k, k < L.length → stGood L k) : stk2 L = true := by
  simp only [stk2, decide_eq_true_eq]
  exact ⟨h, h2⟩
theorem stk2_long {L : List BoxT} (h : ¬ L.length ≤ 20) : stk2 L = false := by
  simp only [stk2, decide_eq_false_iff_not]
  exact fun h' => h h'.1
theorem stk2_one {L : List BoxT} (h : stk1 L = false) : stk2 L = false := by
  simp only [stk1, decide_eq_false_iff_not] at h
  simp only [stk2, decide_eq_false_iff_not]
  exact fun h' => h ⟨h'.1, fun k hk => (h'.2 k hk).1⟩
theorem stack_two {L : List BoxT} {most : Int} (h : stk2 L = false) : stackB L most = false := by rw [stackB, h]; rfl
theorem stack_most {L : List BoxT} {most : Int} (h : inB most 0 1000000 = false) : stackB L most = false := by rw [stackB, h]; simp
theorem lash_pair {L : List BoxT} {wind : Int} (h : lashB L wind = false) : lashC L wind = 0 := by rw [lashC, if_neg (by rw [h]; decide)]
theorem needV_bd {f : Int} (h : f ≤ 200000) : 0 ≤ needV f ∧ needV f ≤ 401 := by
  unfold needV
  split <;> omega
theorem forceN_bd {wind : Int} {n k : Nat} (h0 : 0 ≤ wind) (h1 : wind ≤ 100) (hn : n ≤ 20) (hk : k ≤ n) : 0 ≤ 100 * wind * ((n : Int) - (k : Int)) ∧ 100 * wind * ((n : Int) - (k : Int)) ≤ 200000 := by
  have h2 : 0 ≤ 100 * wind * ((n : Int) - (k : Int)) := Int.mul_nonneg (by omega) (by omega)
  have h3 : 100 * wind * ((n : Int) - (k : Int)) ≤ 10000 * ((n : Int) - (k : Int)) := Int.mul_le_mul_of_nonneg_right (by omega) (by omega)
  omega
theorem lashS_bd {L : List BoxT} {wind : Int} (h0 : 0 ≤ wind) (h1 : wind ≤ 100) {m : Nat} (hm : m ≤ 20) (hl : L.length ≤ 20) (hml : m ≤ L.length) (h : ∀ r, r < m → okO L r = true) : ∀ k, k ≤ m → 0 ≤ sumTo (lashK L wind) k ∧ sumTo (lashK L wind) k ≤ 8020 := by
  intro k hk
  have := sumTo_bd (f := lashK L wind) (B := 401) (n := m) (fun i hi => by
    have h2 := forceN_bd (n := L.length) (k := i) h0 h1 hl (by omega)
    have h3 := sumW_bd (L := L) (m := m) h hm (i + 1) (by omega)
    exact needV_bd (by omega)) k hk
  omega

theorem ware_weight (wt cl : Int) (co : Bool) : ∃ T v, wareV wt cl co = .iface T v ∧ ∀ W, (method 231 T v "loop.example/g00059/impl.weight").run Try.prog W = .ok (96, .agg #[.int .i64 wt]) W := by
  cases co with
  | true =>
    by_cases h : 0 < cl
    · exact ⟨_, _, wareV_cd h, methWeightCD wt cl⟩
    · exact ⟨_, _, wareV_c h, methWeightC wt⟩
  | false =>
    by_cases h : 0 < cl
    · exact ⟨_, _, wareV_d h, methWeightD wt cl⟩
    · exact ⟨_, _, wareV_p h, methWeightP wt⟩

set_option maxHeartbeats 3200000 in
theorem stackedOk_any (v : Value) (L : List BoxT) (w : World) (h : RBox w v L) :
    Calls Try.prog 68 #[v] w fun e w' => e = .returned (.bool (stk1 L)) ∧ Below w.heap.size w w' := by
  obtain ⟨ao, cap, rfl, hl, hm, hc⟩ := h
  unfold maxLen at hm
  have HC := hide hc
  clear hc
  by_cases h20 : L.length ≤ 20
  · have HAll : Hid ((∀ r, r < L.length → okO L r = true) → stk1 L = true) := stk1_all h20
    have h20i : ¬ (20 : Int) < L.length := by omega
    have h20' : (L.length : Int) ≤ 20 := by omega
    go_enter Try.func68, Try.ntmps68
    go_wp2
    go_loopg [10] L.length (fun g i wr => ∃ k : Nat, k ≤ L.length ∧ g = L.length - k ∧ i = .int .i64 k ∧ Hid (∀ r, r < k → okO L r = true) ∧ Hid (Below w.heap.size w wr))
    case atStart => exact ⟨0, Nat.zero_le _, rfl, rfl, fun r hr => by omega, Below.refl _ _⟩
    case round =>
      obtain ⟨k, hk, rfl, rfl, HA, HW⟩ := hrel
      by_cases hkn : k < L.length
      · have HBD : Hid (okO L k = false → stk1 L = false) := stk1_bad hkn
        obtain ⟨b, o, n, wt, cl, co, fr, to, rfl, hc0, hc1, hc2, hc3, hc4, hc5, EX⟩ := recBoxAt (unhide HC) hkn
        have g0 := ((unhide HW).cell (lt_of_cell hc0)).trans hc0
        have g1 := ((unhide HW).cell (lt_of_cell hc1)).trans hc1
        have g2 := ((unhide HW).cell (lt_of_cell hc2)).trans hc2
        have g3 := ((unhide HW).cell (lt_of_cell hc3)).trans hc3
        have g4 := ((unhide HW).cell (lt_of_cell hc4)).trans hc4
        have g5 := ((unhide HW).cell (lt_of_cell hc5)).trans hc5
        have EO : Hid (okO L k = boxB n wt cl fr to) := by show _ = _; unfold okO boxT; rw [unhide EX]
        have EW : Hid (wtO L k = wt) := by show _ = _; unfold wtO; rw [unhide EX]
        have EC : Hid (coO L k = co) := by show _ = _; unfold coO; rw [unhide EX]
        have HBx := hide (ownV_alloc wr #[.string n, .int .i64 wt, .int .i64 cl, .bool co, .int .i64 fr, .int .i64 to] 36)
        have HW1 := hide (Below.step (unhide HW) (Below.alloc1 wr (.cells #[.string n, .int .i64 wt, .int .i64 cl, .bool co, .int .i64 fr, .int .i64 to] 36)))
        have HA1 : Hid (okO L k = true → ∀ r, r < k + 1 → okO L r = true) := fun h r hr => by
          by_cases e : r = k
          · rw [e]; exact h
          · exact unhide HA r (by omega)
        rw [unhide EO] at HBD HA1
        have Q0 := hide fun V => implBoxOk_any n wt cl co fr to V
        unfold vBox at Q0
        have hki : (k : Int) < L.length := by omega
        clear hc0 hc1 hc2 hc3 hc4 hc5 EX EO EW EC
        generalize boxB n wt cl fr to = r at *
        go_wp2_with fail
        refine (unhide Q0 _).mono ?_
        rintro e w1 ⟨rfl, hb⟩
        replace HW1 := hide (Below.step (unhide HW1) hb)
        clear hb Q0
        cases r with
        | false =>
          go_wp2
          go_ret
          exact ⟨by rw [unhide HBD (by simp)]; rfl, unhide HW1⟩
        | true =>
          go_wp2
          go_roundg (L.length - (k + 1))
          case measure => omega
          case rel => exact ⟨k + 1, by omega, rfl, by go_num, unhide HA1 (by simp), unhide HW1⟩
      · have hki : ¬ (k : Int) < L.length := by omega
        have hkk : k = L.length := by omega
        have E := hide (unhide HAll (by rw [← hkk]; exact unhide HA))
        clear hkk
        go_wp2
        go_ret
        exact ⟨by rw [unhide E]; rfl, unhide HW⟩
  · have E := hide (stk1_long h20)
    have h20i : (20 : Int) < L.length := by omega
    go_enter Try.func68, Try.ntmps68
    go_wp2
    go_ret
    exact ⟨by rw [unhide E]; rfl, Below.refl _ _⟩

set_option maxRecDepth 10000 in
set_option maxHeartbeats 6400000 in
theorem implStackOk_any (v : Value) (L : List BoxT) (most : Int) (w : World) (h : RBox w v L) :
    Calls Try.prog 57 #[v, .int .i64 most] w fun e w' => e = .returned (.bool (stackB L most)) ∧ Below w.heap.size w w' := by
  have QS := hide fun V (hV : RBox V v L) => stackedOk_any v L V hV
  have HR := hide h
  obtain ⟨ao, cap, rfl, hl, hm, hc⟩ := h
  unfold maxLen at hm
  have HC := hide hc
  clear hc
  have Q1 := hide fun V => within_any most 0 1000000 V
  have E0 : Hid (stk2 L = false → stackB L most = false) := stack_two
  have E1 : Hid (inB most 0 1000000 = false → stackB L most = false) := stack_most
  have E2 : Hid (stackB L most = (stk2 L && inB most 0 1000000 && decide (sumTo (wtO L) L.length ≤ most))) := rfl
  have E3 : Hid (stk1 L = false → stk2 L = false) := stk2_one
  have E4 : Hid (stk1 L = true → L.length ≤ 20 ∧ ∀ k, k < L.length → okO L k = true) := stk1_len
  go_enter Try.func57, Try.ntmps57
  go_wp2_with fail
  refine (unhide QS _ (unhide HR)).mono ?_
  rintro e w1 ⟨rfl, hb⟩
  have HW := hide hb
  clear hb QS HR
  cases hs : stk1 L with
  | false =>
    have E := hide (unhide E0 (unhide E3 hs))
    go_wp2
    go_ret
    exact ⟨by rw [unhide E]; rfl, unhide HW⟩
  | true =>
  obtain ⟨h20, hal⟩ := unhide E4 hs
  have HAL := hide hal
  clear hal E3 E4 hs
  cases hm1 : inB most 0 1000000 with
  | false =>
    rw [hm1] at Q1
    have E := hide (unhide E1 hm1)
    go_wp2_with fail
    refine (unhide Q1 _).mono ?_
    rintro e w1 ⟨rfl, rfl⟩
    go_wp2
    go_ret
    exact ⟨by rw [unhide E]; rfl, unhide HW⟩
  | true =>
  rw [hm1] at Q1 E2
  have hmb := inB_true hm1
  obtain ⟨mo0, mo1⟩ := hmb
  go_wp2_with fail
  refine (unhide Q1 _).mono ?_
  rintro e w1 ⟨rfl, rfl⟩
  clear Q1 E1 hm1
  go_wp2
  go_loopg [5, 6, 20] L.length (fun g tv bv iv wr => ∃ (k : Nat) (bl : Int), k ≤ L.length ∧ g = L.length - k ∧ iv = .int .i64 k ∧ tv = .int .i64 (sumTo (wtO L) k) ∧ bv = .int .i64 bl ∧ Hid ((k = 0 ∧ bl = 40000) ∨ (0 < k ∧ bl = wtO L (k - 1))) ∧ Hid (∀ r, r < k → stGood L r) ∧ Hid (Below w.heap.size w wr))
  case atStart => exact ⟨0, 40000, Nat.zero_le _, rfl, rfl, rfl, rfl, Or.inl ⟨rfl, rfl⟩, fun r hr => by omega, unhide HW⟩
  case round =>
    clear HW
    obtain ⟨k, bl, hk, rfl, rfl, rfl, rfl, HL, HA, HW⟩ := hrel
    by_cases hkn : k < L.length
    · have HBD : Hid (¬ stGood L k → stackB L most = false) := fun h => unhide E0 (stk2_bad hkn h)
      have HOK := hide (unhide HAL k hkn)
      have HWB := hide (okO_wt (unhide HOK))
      obtain ⟨b, o, n, wt, cl, co, fr, to, rfl, hc0, hc1, hc2, hc3, hc4, hc5, EX⟩ := recBoxAt (unhide HC) hkn
      have g0 := ((unhide HW).cell (lt_of_cell hc0)).trans hc0
      have g1 := ((unhide HW).cell (lt_of_cell hc1)).trans hc1
      have g2 := ((unhide HW).cell (lt_of_cell hc2)).trans hc2
      have g3 := ((unhide HW).cell (lt_of_cell hc3)).trans hc3
      have g4 := ((unhide HW).cell (lt_of_cell hc4)).trans hc4
      have g5 := ((unhide HW).cell (lt_of_cell hc5)).trans hc5
      have EO : Hid (okO L k = boxB n wt cl fr to) := by show _ = _; unfold okO boxT; rw [unhide EX]
      have EW : Hid (wtO L k = wt) := by show _ = _; unfold wtO; rw [unhide EX]
      have EC : Hid (coO L k = co) := by show _ = _; unfold coO; rw [unhide EX]
      have HBx := hide (ownV_alloc wr #[.string n, .int .i64 wt, .int .i64 cl, .bool co, .int .i64 fr, .int .i64 to] 36)
      have HW1 := hide (Below.step (unhide HW) (Below.alloc1 wr (.cells #[.string n, .int .i64 wt, .int .i64 cl, .bool co, .int .i64 fr, .int .i64 to] 36)))
      have HA1 : Hid (stGood L k → ∀ r, r < k + 1 → stGood L r) := fun h r hr => by
        by_cases e : r = k
        · rw [e]; exact h
        · exact unhide HA r (by omega)
      have HG : Hid (wt ≤ bl → (k : Int) ≤ tierV co → stGood L k) := fun h1 h2 => by
        refine ⟨unhide HOK, fun h0 => ?_, fun h3 => ?_⟩
        · rcases unhide HL with ⟨h, _⟩ | ⟨_, h⟩
          · omega
          · rw [unhide EW, ← h]; exact h1
        · rw [unhide EC] at h3
          rw [h3, tierV, if_pos rfl] at h2
          omega
      have HG1 : Hid (bl < wt → ¬ stGood L k) := fun h1 h2 => by
        rcases unhide HL with ⟨h, h3⟩ | ⟨h0, h3⟩
        · have := unhide HWB
          rw [unhide EW] at this
          omega
        · have := h2.2.1 h0
          rw [unhide EW, ← h3] at this
          omega
      have HG2 : Hid (tierV co < (k : Int) → ¬ stGood L k) := fun h1 h2 => by
        cases e : co with
        | true =>
          have := h2.2.2 (by rw [unhide EC, e])
          rw [e, tierV, if_pos rfl] at h1
          omega
        | false =>
          rw [e, tierV, if_neg (by decide)] at h1
          omega
      have HSB := hide (sumW_bd (unhide HAL) h20 k hk)
      have HSB1 := hide (sumW_bd (unhide HAL) h20 (k + 1) (by omega))
      have HSM : Hid (sumTo (wtO L) (k + 1) = sumTo (wtO L) k + wt) := by show sumTo (wtO L) k + wtO L k = _; rw [unhide EW]
      have HL1 : Hid (wt = wtO L k) := (unhide EW).symm
      rw [unhide EW] at HWB
      have QW := fun V => wareOf_any n wt cl co fr to V
      have QT := fun V => lastTierOf_any wt cl co V
      obtain ⟨T, av, eV, hM⟩ := ware_weight wt cl co
      rw [eV] at QT
      simp only [eV] at QW
      unfold vBox at QW
      replace QW := hide QW
      replace QT := hide QT
      have QP := hide fun V => plainWeight_any wt V
      have hki : (k : Int) < L.length := by omega
      clear hc0 hc1 hc2 hc3 hc4 hc5 EX EO EW EC eV HOK HL
      obtain ⟨tt, et⟩ : ∃ z, z = tierV co := ⟨_, rfl⟩
      rw [← et] at HG HG2 QT
      clear et
      obtain ⟨s0, e0⟩ : ∃ z, z = sumTo (wtO L) k := ⟨_, rfl⟩
      rw [← e0] at HSM HSB ⊢
      obtain ⟨s1, e1⟩ : ∃ z, z = sumTo (wtO L) (k + 1) := ⟨_, rfl⟩
      have HE1 := hide e1
      rw [← e1] at HSM HSB1
      clear e0 e1
      have q1 : IntKind.i64.wrap (s0 + wt) = s1 := by have := unhide HSB1; rw [IntKind.wrap_i64, unhide HSM] at *; omega
      have hM2 := hM
      go_wp2_with fail
      refine (unhide QW _).mono ?_
      rintro e w2 ⟨rfl, hb⟩
      replace HW1 := hide (Below.step (unhide HW1) hb)
      clear hb QW
      go_wp2_with fail
      refine (unhide QP _).mono ?_
      rintro e w3 ⟨rfl, hb⟩
      replace HW1 := hide (Below.step (unhide HW1) hb)
      clear hb
      by_cases hbl : bl < wt
      · have E := hide (unhide HBD (unhide HG1 hbl))
        go_wp2
        go_ret
        exact ⟨by rw [unhide E]; rfl, unhide HW1⟩
      · go_wp2_with fail
        refine (unhide QT _).mono ?_
        rintro e w4 ⟨rfl, hb⟩
        replace HW1 := hide (Below.step (unhide HW1) hb)
        clear hb QT
        by_cases htt : tt < (k : Int)
        · have E := hide (unhide HBD (unhide HG2 htt))
          go_wp2
          go_ret
          exact ⟨by rw [unhide E]; rfl, unhide HW1⟩
        · have HGd := hide (unhide HA1 (unhide HG (by omega) (by omega)))
          go_wp2_with fail
          refine (unhide QP _).mono ?_
          rintro e w5 ⟨rfl, hb⟩
          replace HW1 := hide (Below.step (unhide HW1) hb)
          clear hb QP HG HG1 HG2 HA1 HBD
          go_wp2
          go_roundg (L.length - (k + 1))
          case measure => omega
          case rel => exact ⟨k + 1, wt, by omega, rfl, by go_num, by rw [unhide HE1], rfl, Or.inr ⟨by omega, by rw [Nat.add_sub_cancel]; exact unhide HL1⟩, unhide HGd, unhide HW1⟩
    · have hki : ¬ (k : Int) < L.length := by omega
      have hkk : k = L.length := by omega
      have E := hide (unhide E2)
      rw [stk2_all h20 (by rw [← hkk]; exact unhide HA), ← hkk] at E
      have HSB := hide (sumW_bd (unhide HAL) h20 k hk)
      clear hkk E2 E0
      generalize sumTo (wtO L) k = s0 at *
      by_cases hs : s0 ≤ most
      · go_wp2
        go_ret
        exact ⟨by rw [unhide E]; simp [hs], unhide HW⟩
      · go_wp2
        go_ret
        exact ⟨by rw [unhide E]; simp; omega, unhide HW⟩

end Go.Proofs.Ytnfdokcpjcnknaa

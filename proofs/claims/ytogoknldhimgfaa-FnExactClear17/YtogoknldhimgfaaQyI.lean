/- Contracts of the specification's l17Meet and Clear17. Written by wip/mkqyi.py. -/
import Derived.Test.YtogoknldhimgfaaQyN
import Derived.Test.YtogoknldhimgfaaBeA
namespace Go.Proofs.Ytogoknldhimgfaa
open Go.RowKit

/-- Who meets whom, in numbers of 64 bits. -/
def MtW (a b : CallT) : Prop := 0 ≤ cAt a ∧ 0 ≤ cAt b ∧ cFr a < cTo b ∧ cFr b < cTo a ∧ cAt a < IntKind.i64.wrap (cAt b + cLg b) ∧ cAt b < IntKind.i64.wrap (cAt a + cLg a)
instance (a b : CallT) : Decidable (MtW a b) := by unfold MtW; infer_instance
theorem mtW_meet {a b : CallT} (ha : -1 ≤ cAt a ∧ cAt a ≤ 100000) (hb : -1 ≤ cAt b ∧ cAt b ≤ 100000) (la : 0 ≤ cLg a ∧ cLg a ≤ 1000) (lb : 0 ≤ cLg b ∧ cLg b ≤ 1000) : MtW a b ↔ MeetP a b := by
  unfold MtW MeetP
  rw [show IntKind.i64.wrap (cAt b + cLg b) = cAt b + cLg b by rw [IntKind.wrap_i64]; omega, show IntKind.i64.wrap (cAt a + cLg a) = cAt a + cLg a by rw [IntKind.wrap_i64]; omega]

set_option maxRecDepth 100000 in
set_option maxHeartbeats 8000000 in
theorem l17Meet_any (a0 a1 a2 a3 a4 b0 b1 b2 b3 b4 : Int) (w : World) :
    Calls Try.prog 76 #[vCall a0 a1 a2 a3 a4, vCall b0 b1 b2 b3 b4] w fun e w' => e = .returned (.bool (decide (MtW (a0, a1, a2, a3, a4) (b0, b1, b2, b3, b4)))) ∧ Below w.heap.size w w' := by
  have A := Below.alloc1 w (.cells #[.int .i64 a0, .int .i64 a1, .int .i64 a2, .int .i64 a3, .int .i64 a4] 31)
  obtain ⟨V, eV⟩ : ∃ V, V = w.alloc (.cells #[.int .i64 a0, .int .i64 a1, .int .i64 a2, .int .i64 a3, .int .i64 a4] 31) := ⟨_, rfl⟩
  rw [← eV] at A
  have A2 := Below.alloc1 V (.cells #[.int .i64 b0, .int .i64 b1, .int .i64 b2, .int .i64 b3, .int .i64 b4] 31)
  have HW := hide (Below.step A A2)
  subst eV
  clear A A2
  obtain ⟨z, ez⟩ : ∃ z, z = IntKind.i64.wrap (b4 + b1) := ⟨_, rfl⟩
  obtain ⟨y, ey⟩ : ∃ y, y = IntKind.i64.wrap (a4 + a1) := ⟨_, rfl⟩
  have HG : Hid (MtW (a0, a1, a2, a3, a4) (b0, b1, b2, b3, b4) ↔ 0 ≤ a4 ∧ 0 ≤ b4 ∧ a2 < b3 ∧ b2 < a3 ∧ a4 < z ∧ b4 < y) := by
    show _ ↔ _
    rw [ez, ey]
    exact Iff.rfl
  have q1 : IntKind.i64.wrap (b4 + b1) = z := ez.symm
  have q2 : IntKind.i64.wrap (a4 + a1) = y := ey.symm
  have HRT : Hid (MtW (a0, a1, a2, a3, a4) (b0, b1, b2, b3, b4) → decide (MtW (a0, a1, a2, a3, a4) (b0, b1, b2, b3, b4)) = true) := fun h => decide_eq_true h
  have HRF : Hid (¬ MtW (a0, a1, a2, a3, a4) (b0, b1, b2, b3, b4) → decide (MtW (a0, a1, a2, a3, a4) (b0, b1, b2, b3, b4)) = false) := fun h => decide_eq_false h
  generalize decide (MtW (a0, a1, a2, a3, a4) (b0, b1, b2, b3, b4)) = r at HRT HRF ⊢
  clear ez ey
  unfold vCall
  go_enter Try.func76, Try.ntmps76
  by_cases h1 : 0 ≤ a4
  case neg =>
    have d1 : decide (0 ≤ a4) = false := decide_eq_false h1
    have e1 : r = false := unhide HRF (fun h => by have h9 := (unhide HG).1 h; exact h1 h9.1)
    subst e1
    clear HRT HRF HG h1
    go_wp2
    go_ret
    exact ⟨rfl, unhide HW⟩
  have d1 : decide (0 ≤ a4) = true := decide_eq_true h1
  by_cases h2 : 0 ≤ b4
  case neg =>
    have d2 : decide (0 ≤ b4) = false := decide_eq_false h2
    have e1 : r = false := unhide HRF (fun h => by have h9 := (unhide HG).1 h; exact h2 h9.2.1)
    subst e1
    clear HRT HRF HG h2
    go_wp2
    go_ret
    exact ⟨rfl, unhide HW⟩
  have d2 : decide (0 ≤ b4) = true := decide_eq_true h2
  by_cases h3 : a2 < b3
  case neg =>
    have d3 : decide (a2 < b3) = false := decide_eq_false h3
    have e1 : r = false := unhide HRF (fun h => by have h9 := (unhide HG).1 h; exact h3 h9.2.2.1)
    subst e1
    clear HRT HRF HG h3
    go_wp2
    go_ret
    exact ⟨rfl, unhide HW⟩
  have d3 : decide (a2 < b3) = true := decide_eq_true h3
  by_cases h4 : b2 < a3
  case neg =>
    have d4 : decide (b2 < a3) = false := decide_eq_false h4
    have e1 : r = false := unhide HRF (fun h => by have h9 := (unhide HG).1 h; exact h4 h9.2.2.2.1)
    subst e1
    clear HRT HRF HG h4
    go_wp2
    go_ret
    exact ⟨rfl, unhide HW⟩
  have d4 : decide (b2 < a3) = true := decide_eq_true h4
  by_cases h5 : a4 < z
  case neg =>
    have d5 : decide (a4 < z) = false := decide_eq_false h5
    have e1 : r = false := unhide HRF (fun h => by have h9 := (unhide HG).1 h; exact h5 h9.2.2.2.2.1)
    subst e1
    clear HRT HRF HG h5
    go_wp2
    go_ret
    exact ⟨rfl, unhide HW⟩
  have d5 : decide (a4 < z) = true := decide_eq_true h5
  by_cases h6 : b4 < y
  case neg =>
    have d6 : decide (b4 < y) = false := decide_eq_false h6
    have e1 : r = false := unhide HRF (fun h => by have h9 := (unhide HG).1 h; exact h6 h9.2.2.2.2.2)
    subst e1
    clear HRT HRF HG h6
    go_wp2
    go_ret
    exact ⟨rfl, unhide HW⟩
  have d6 : decide (b4 < y) = true := decide_eq_true h6
  have e1 : r = true := unhide HRT ((unhide HG).2 ⟨h1, h2, h3, h4, h5, h6⟩)
  subst e1
  clear HRT HRF HG
  go_wp2
  go_ret
  exact ⟨rfl, unhide HW⟩

theorem ret_b17s {x b : Bool} (h : x = b) : (Ending.returned (.bool b)) = .returned (.bool x) := by rw [h]
/-- The k-th and the i-th call do not meet, as far as the numbers go. -/
def NmW (L : List CallT) (i k : Nat) : Prop := ¬ MtW (ca L i) (ca L k)
theorem caP_nums {long : Int} {L : List CallT} (h : CaP long L) {i : Nat} (hi : i < L.length) : (-1 ≤ cAt (ca L i) ∧ cAt (ca L i) ≤ 100000) ∧ (0 ≤ cLg (ca L i) ∧ cLg (ca L i) ≤ 1000) := by
  have h1 := h.1
  have h2 := (h.2.2 i hi).2.1.1
  have h3 := (h.2.2 i hi).2.1.2.2
  omega
theorem mtW_ca {long : Int} {L : List CallT} (h : CaP long L) {i k : Nat} (hi : i < L.length) (hk : k < L.length) : MtW (ca L i) (ca L k) ↔ MeetP (ca L i) (ca L k) :=
  mtW_meet (caP_nums h hi).1 (caP_nums h hk).1 (caP_nums h hi).2 (caP_nums h hk).2

set_option maxRecDepth 100000 in
set_option maxHeartbeats 8000000 in
theorem specClear17_any (v : Value) (long : Int) (L : List CallT) (w : World) (h : RCall w v L) :
    Calls Try.prog 30 #[.int .i64 long, v] w fun e w' => e = .returned (.bool (clB long L)) ∧ Below w.heap.size w w' := by
  have HR := hide fun V (hV : Below w.heap.size w V) => h.below hV
  have Q1 := hide fun V (hV : Below w.heap.size w V) => specCallsOk_any v long L V (unhide HR V hV)
  obtain ⟨ao, cap, rfl, hl, hmx, -⟩ := h
  unfold maxLen at hmx
  go_enter Try.func30, Try.ntmps30
  go_wp2
  go_loopg [5] L.length (fun g iv wr => ∃ i : Nat, i ≤ L.length ∧ g = L.length - i ∧ iv = .int .i64 (i : Int) ∧ Hid (∀ r, r < i → ∀ s, s < r → NmW L r s) ∧ Hid (Below w.heap.size w wr))
  case atStart => exact ⟨0, Nat.zero_le _, rfl, rfl, fun r hr => by omega, Below.refl _ _⟩
  case round =>
    obtain ⟨i, hi, rfl, rfl, HNO, HWo⟩ := hrel
    by_cases hin : i < L.length
    · have hii : (i : Int) < L.length := by omega
      generalize hwo : wr = wo at *
      clear hwo
      go_wp2
      go_loopg [6] i (fun g kv wr => ∃ k : Nat, k ≤ i ∧ g = i - k ∧ kv = .int .i64 (k : Int) ∧ Hid (∀ s, s < k → NmW L i s) ∧ Hid (Below w.heap.size w wr))
      case atStart => exact ⟨0, Nat.zero_le _, rfl, rfl, fun s hs => by omega, HWo⟩
      case round =>
        clear HWo
        obtain ⟨k, hk, rfl, rfl, HNK, HW⟩ := hrel
        by_cases hki : k < i
        · have hki2 : (k : Int) < i := by omega
          have hkl : (k : Int) < L.length := by omega
          have hkn : k < L.length := by omega
          obtain ⟨ao', cap', e', -, -, hcc⟩ := unhide HR wr (unhide HW)
          simp only [Value.slice.injEq] at e'
          obtain ⟨rfl, -, rfl⟩ := e'
          obtain ⟨b, o, x0, x1, x2, x3, x4, rfl, g0, g1, g2, g3, g4, EX⟩ := recCallAt hcc hin
          obtain ⟨b', o', y0, y1, y2, y3, y4, e', f0, f1, f2, f3, f4, EY⟩ := recCallAt hcc hkn
          simp only [Option.some.injEq, Addr.mk.injEq, and_true] at e'
          obtain ⟨rfl, rfl⟩ := e'
          have ex : ca L i = (x0, x1, x2, x3, x4) := unhide EX
          have ey : ca L k = (y0, y1, y2, y3, y4) := unhide EY
          have HM : Hid (MtW (x0, x1, x2, x3, x4) (y0, y1, y2, y3, y4) → clB long L = false) := fun hm => clB_meet hin hkn (by omega) fun hP => (mtW_ca hP hin hkn).1 (by rw [ex, ey]; exact hm)
          have HNX : Hid (¬ MtW (x0, x1, x2, x3, x4) (y0, y1, y2, y3, y4) → ∀ s, s < k + 1 → NmW L i s) := fun hm s hs => by
            by_cases e : s = k
            · rw [e]; unfold NmW; rw [ex, ey]; exact hm
            · exact unhide HNK s (by omega)
          have r0 := fun x : Gr wr => gr_cell g0 x
          have r1 := fun x : Gr wr => gr_cell g1 x
          have r2 := fun x : Gr wr => gr_cell g2 x
          have r3 := fun x : Gr wr => gr_cell g3 x
          have r4 := fun x : Gr wr => gr_cell g4 x
          have t0 := fun x : Gr wr => gr_cell f0 x
          have t1 := fun x : Gr wr => gr_cell f1 x
          have t2 := fun x : Gr wr => gr_cell f2 x
          have t3 := fun x : Gr wr => gr_cell f3 x
          have t4 := fun x : Gr wr => gr_cell f4 x
          have S1 := hide fun x : Gr wr => l17Meet_any x0 x1 x2 x3 x4 y0 y1 y2 y3 y4 x.val
          have HD1 : Hid (MtW (x0, x1, x2, x3, x4) (y0, y1, y2, y3, y4) ↔ decide (MtW (x0, x1, x2, x3, x4) (y0, y1, y2, y3, y4)) = true) := ⟨fun h => decide_eq_true h, of_decide_eq_true⟩
          generalize decide (MtW (x0, x1, x2, x3, x4) (y0, y1, y2, y3, y4)) = mb at *
          unfold vCall at S1
          have gsome := gr_some wr
          clear EX EY ex ey hcc g0 g1 g2 g3 g4 f0 f1 f2 f3 f4 HNK
          go_wp2
          refine wp_region_grown (by kernel_rfl) (by kernel_rfl) ?_
          repeat (go_big_quiet_step (fail))
          go_big_quiet_want
          go_big_quiet_op
          go_big_quiet_call (exact calls_grown (unhide S1 _))
          repeat (go_big_quiet_step (fail))
          refine wpQuiet_nil ?_
          intro w1 hw1
          obtain ⟨z', hz⟩ := hw1
          have hb1 : Below wr.heap.size wr w1 := hz ▸ z'.ok
          have HW1 := hide (Below.step (unhide HW) hb1)
          clear hz gsome r0 r1 r2 r3 r4 t0 t1 t2 t3 t4 S1 hb1 z'
          cases mb with
          | true =>
            have HF := hide (unhide HM ((unhide HD1).2 rfl))
            go_wp2
            go_ret
            exact ⟨ret_b17s (unhide HF), unhide HW1⟩
          | false =>
            have HNX2 := hide (unhide HNX (fun h => by have := (unhide HD1).1 h; cases this))
            go_wp2
            go_roundg (i - (k + 1))
            case measure => omega
            case rel => exact ⟨k + 1, by omega, rfl, by go_num, HNX2, HW1⟩
        · obtain rfl : k = i := by omega
          go_wp2
          go_roundg (L.length - (k + 1))
          case measure => omega
          case rel => exact ⟨k + 1, by omega, rfl, by go_num, fun r hr => by
            by_cases e : r = k
            · subst e; exact unhide HNK
            · exact unhide HNO r (by omega), HW⟩
    · obtain rfl : i = L.length := by omega
      have HF : Hid (clB long L = caB long L) := by
        show _ = _
        rw [Bool.eq_iff_iff, clB_iff, caB_iff]
        exact ⟨fun h => h.1, fun h => ⟨h, fun r hr s hs hm => unhide HNO r hr s hs ((mtW_ca h hr (by omega)).2 hm)⟩⟩
      go_wp2_with fail
      refine (unhide Q1 _ (unhide HWo)).mono ?_
      rintro e w2 ⟨rfl, hbb⟩
      have HW1 := hide (Below.step (unhide HWo) hbb)
      clear hbb Q1
      generalize caB long L = cb at *
      go_wp2
      go_ret
      exact ⟨ret_b17s (unhide HF), unhide HW1⟩

end Go.Proofs.Ytogoknldhimgfaa

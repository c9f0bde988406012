/- Contracts of leastBerth, both Clear17, both Berth. Laid together by wip/lay17.py. -/
import Derived.Test.YtogoknldhimgfaaQyD
import Derived.Test.YtogoknldhimgfaaQyN
import Derived.Test.YtogoknldhimgfaaQyB
import Derived.Test.YtogoknldhimgfaaQyC
import Derived.Test.YtogoknldhimgfaaBeA
import Derived.Test.YtogoknldhimgfaaCpCall
import Derived.Test.YtogoknldhimgfaaRecH
import Derived.Test.YtogoknldhimgfaaBeB
namespace Go.Proofs.Ytogoknldhimgfaa
open Go.RowKit

set_option maxRecDepth 10000 in
set_option maxHeartbeats 4000000 in
theorem shareMinutes_any (a0 a1 a2 a3 a4 b0 b1 b2 b3 b4 : Int) (w : World) :
    Calls Try.prog 85 #[vCall a0 a1 a2 a3 a4, vCall b0 b1 b2 b3 b4] w fun e w' => e = .returned (.bool (decide (a2 < b3) && decide (b2 < a3))) ∧ Below w.heap.size w w' := by
  have A := Below.alloc1 w (.cells #[.int .i64 a0, .int .i64 a1, .int .i64 a2, .int .i64 a3, .int .i64 a4] 31)
  have HO := hide (ownV_alloc w #[.int .i64 a0, .int .i64 a1, .int .i64 a2, .int .i64 a3, .int .i64 a4] 31)
  obtain ⟨V, eV⟩ : ∃ V, V = w.alloc (.cells #[.int .i64 a0, .int .i64 a1, .int .i64 a2, .int .i64 a3, .int .i64 a4] 31) := ⟨_, rfl⟩
  rw [← eV] at A HO
  have A2 := Below.alloc1 V (.cells #[.int .i64 b0, .int .i64 b1, .int .i64 b2, .int .i64 b3, .int .i64 b4] 31)
  have HW := hide (Below.step A A2)
  unfold vCall
  subst eV
  go_enter Try.func85, Try.ntmps85
  clear A A2 HO
  by_cases h1 : a2 < b3
  · have d1 : decide (a2 < b3) = true := decide_eq_true h1
    rw [d1, Bool.true_and]
    go_wp2
    go_ret
    exact ⟨rfl, unhide HW⟩
  · have d1 : decide (a2 < b3) = false := decide_eq_false h1
    rw [d1, Bool.false_and]
    go_wp2
    go_ret
    exact ⟨rfl, unhide HW⟩

set_option maxRecDepth 100000 in
set_option maxHeartbeats 8000000 in
theorem leastBerth_any (N : Nat) (v : Value) (L : List CallT) (c0 c1 c2 c3 c4 : Int) (w : World) (h : RCall w v L) (hP : CaP (N : Int) L) (hc : 1 ≤ c1 ∧ c1 ≤ 1000) :
    Calls Try.prog 57 #[.int .i64 (N : Int), v, vCall c0 c1 c2 c3 c4] w fun e w' => e = .returned (.int .i64 (lbV (N : Int) L (c0, c1, c2, c3, c4))) ∧ Below w.heap.size w w' := by
  have HP := hide hP
  have hN := hP.1
  have h24 := hP.2.1
  obtain ⟨m, rfl⟩ : ∃ m : Nat, c1 = m := ⟨c1.toNat, by omega⟩
  have HV : Hid (lbV (N : Int) L (c0, (m : Int), c2, c3, c4) = leastV (tkB L (c0, (m : Int), c2, c3, c4) L.length) m N) := rfl
  rw [unhide HV]
  clear HV
  obtain ⟨c, ec⟩ : ∃ c : CallT, c = (c0, (m : Int), c2, c3, c4) := ⟨_, rfl⟩
  rw [← ec]
  have HEC := hide ec
  clear ec hP
  have HR := hide fun V (hV : Below w.heap.size w V) => h.below hV
  obtain ⟨ao, cap, rfl, hl, hmx, -⟩ := h
  unfold maxLen at hmx
  have A := Below.alloc1 w (.cells #[.int .i64 c0, .int .i64 (m : Int), .int .i64 c2, .int .i64 c3, .int .i64 c4] 31)
  have HO := hide (ownV_alloc w #[.int .i64 c0, .int .i64 (m : Int), .int .i64 c2, .int .i64 c3, .int .i64 c4] 31)
  obtain ⟨V, eV⟩ : ∃ V, V = w.alloc (.cells #[.int .i64 c0, .int .i64 (m : Int), .int .i64 c2, .int .i64 c3, .int .i64 c4] 31) := ⟨_, rfl⟩
  have hvs : V.heap.size = w.heap.size + 1 := by rw [eV, World.size_alloc]
  rw [← eV] at A HO
  have Q1 := hide (quayOf_any N V (by omega) (by omega))
  have HW := hide A
  unfold vCall
  go_enter Try.func57, Try.ntmps57
  go_wp2_with fail
  rw [← eV]
  refine (unhide Q1).mono ?_
  rintro e w1 ⟨rfl, hq, hb⟩
  have hgs := hq.sz
  rw [hvs] at hq hgs ⊢
  have HQ0 := hide hq
  replace HO := hide ((unhide HO).step hb)
  replace HW := hide (Below.step (unhide HW) hb)
  clear Q1 hq hb A eV hvs
  obtain ⟨gc, egc⟩ : ∃ g, g = w.heap.size := ⟨_, rfl⟩
  obtain ⟨gq, egq⟩ : ∃ g, g = w.heap.size + 1 := ⟨_, rfl⟩
  rw [← egq] at HQ0 hgs ⊢
  rw [← egc] at HO ⊢
  have hg1 : w.heap.size ≤ gc := by omega
  have hg2 : gc < gq := by omega
  clear egc egq
  obtain ⟨n, en⟩ : ∃ n, n = N + 1 := ⟨_, rfl⟩
  rw [← en] at HQ0 hgs ⊢
  have hn1 : n ≤ N + 1 := by omega
  have hn2 : N + 1 ≤ n := by omega
  have HEN := hide en
  clear en V
  generalize hw9 : w1 = w9 at *
  clear hw9
  go_wp2
  go_loopg [14] L.length (fun g kv wr => ∃ k : Nat, k ≤ L.length ∧ g = L.length - k ∧ kv = .int .i64 (k : Int) ∧ Hid (Qy wr gq n 0 (tkB L c k)) ∧ Hid (OwnV wr gc [.int .i64 c0, .int .i64 (m : Int), .int .i64 c2, .int .i64 c3, .int .i64 c4]) ∧ Hid (Below w.heap.size w wr))
  case atStart => exact ⟨0, Nat.zero_le _, rfl, rfl, HQ0, HO, HW⟩
  case round =>
    clear HQ0 HO HW
    obtain ⟨k, hk, rfl, rfl, HQ, HO, HW⟩ := hrel
    by_cases hkn : k < L.length
    · obtain ⟨ao', cap', e', -, -, hcc⟩ := unhide HR wr (unhide HW)
      simp only [Value.slice.injEq] at e'
      obtain ⟨rfl, -, rfl⟩ := e'
      obtain ⟨b, o, x0, x1, x2, x3, x4, rfl, g0, g1, g2, g3, g4, EX⟩ := recCallAt hcc hkn
      have ex : ca L k = (x0, x1, x2, x3, x4) := unhide EX
      have hcs := ((unhide HP).2.2 k hkn).2.1
      rw [ex] at hcs
      obtain ⟨hx1, hx2, hx4⟩ : (1 ≤ x1 ∧ x1 ≤ 1000) ∧ (0 ≤ x2 ∧ x2 < x3 ∧ x3 ≤ 100000000) ∧ (x4 = -1 ∨ (0 ≤ x4 ∧ x4 + x1 ≤ (N : Int))) := hcs
      have ET : Hid (tkB L c (k + 1) = if x0 ≠ c0 ∧ x4 ≠ -1 ∧ (x2 < c3 ∧ c2 < x3) then covB (tkB L c k) x4.toNat x1.toNat else tkB L c k) := by
        show _ = _
        simp only [tkB]
        rw [ex, unhide HEC]
        rfl
      have hA := Below.alloc1 wr (.cells #[.int .i64 x0, .int .i64 x1, .int .i64 x2, .int .i64 x3, .int .i64 x4] 31)
      have HX := hide (ownV_alloc wr #[.int .i64 x0, .int .i64 x1, .int .i64 x2, .int .i64 x3, .int .i64 x4] 31)
      have HW1 := hide (Below.step (unhide HW) hA)
      have HQ1 := hide ((unhide HQ).step hA)
      have HO1 := hide ((unhide HO).step hA)
      have hki : (k : Int) < L.length := by omega
      have S1 := hide fun U => shareMinutes_any x0 x1 x2 x3 x4 c0 (m : Int) c2 c3 c4 U
      have hws := (unhide HW1).size
      rw [World.size_alloc] at hws
      clear EX ex hA HW HQ HO hcc
      have o0 := (unhide HO1).cell (i := 0) rfl
      by_cases h1 : x0 = c0
      · have d1 : (x0 != c0) = false := by simp [h1]
        replace ET : Hid (tkB L c (k + 1) = tkB L c k) := by show _ = _; rw [unhide ET, if_neg (fun h => h.1 h1)]
        clear h1
        go_wp2
        go_roundg (L.length - (k + 1))
        case measure => omega
        case rel => exact ⟨k + 1, by omega, rfl, by go_num, by rw [unhide ET]; exact HQ1, HO1, HW1⟩
      · have d1 : (x0 != c0) = true := by simp [h1]
        by_cases h2 : x4 = -1
        · have d2 : (x4 != -1) = false := by simp [h2]
          replace ET : Hid (tkB L c (k + 1) = tkB L c k) := by show _ = _; rw [unhide ET, if_neg (fun h => h.2.1 h2)]
          clear h1 h2 hx4
          go_wp2
          go_roundg (L.length - (k + 1))
          case measure => omega
          case rel => exact ⟨k + 1, by omega, rfl, by go_num, by rw [unhide ET]; exact HQ1, HO1, HW1⟩
        · have d2 : (x4 != -1) = true := by simp [h2]
          obtain ⟨p, rfl⟩ : ∃ p : Nat, x4 = p := ⟨x4.toNat, by omega⟩
          obtain ⟨q, rfl⟩ : ∃ q : Nat, x1 = q := ⟨x1.toNat, by omega⟩
          have o1 := (unhide HO1).cell (i := 1) rfl
          have o2 := (unhide HO1).cell (i := 2) rfl
          have o3 := (unhide HO1).cell (i := 3) rfl
          have o4 := (unhide HO1).cell (i := 4) rfl
          by_cases h3 : x2 < c3 ∧ c2 < x3
          · replace ET : Hid (tkB L c (k + 1) = covB (tkB L c k) p q) := by show _ = _; rw [unhide ET, if_pos ⟨h1, h2, h3⟩]; rfl
            rw [show (decide (x2 < c3) && decide (c2 < x3)) = true by simp [h3.1, h3.2]] at S1
            have HL := hide fun U hU => lie_any gq n p q x0 x2 x3 (tkB L c k) U hU (by omega) (by omega) (by omega)
            clear h1 h2 h3
            unfold vCall at S1 HL
            go_wp2_with fail
            refine (unhide S1 _).mono ?_
            rintro e w2 ⟨rfl, hb⟩
            replace HX := hide ((unhide HX).step hb)
            replace HO1 := hide ((unhide HO1).step hb)
            replace HQ1 := hide ((unhide HQ1).step hb)
            replace HW1 := hide (Below.step (unhide HW1) hb)
            clear hb S1 o0 o1 o2 o3 o4 g0 g1 g2 g3 g4
            have y0 := (unhide HX).cell (i := 0) rfl
            have y1 := (unhide HX).cell (i := 1) rfl
            have y2 := (unhide HX).cell (i := 2) rfl
            have y3 := (unhide HX).cell (i := 3) rfl
            have y4 := (unhide HX).cell (i := 4) rfl
            go_wp2_with fail
            refine (unhide HL _ (unhide HQ1)).mono ?_
            rintro e w3 ⟨rfl, hq, hk2⟩
            have HW2 := hide ((unhide HW1).trans (hk2.below (unhide HW1).size fun b hb => by have := hb.1; omega))
            have HO2 := hide ((unhide HO1).kept hk2 (fun hb => by have := hb.1; omega))
            have HQ2 := hide hq
            clear hq hk2 y0 y1 y2 y3 y4 HL
            generalize freeB (tkB L c k) p q = fb at *
            go_wp2
            go_roundg (L.length - (k + 1))
            case measure => omega
            case rel => exact ⟨k + 1, by omega, rfl, by go_num, by rw [unhide ET]; exact HQ2, HO2, HW2⟩
          · replace ET : Hid (tkB L c (k + 1) = tkB L c k) := by show _ = _; rw [unhide ET, if_neg (fun h => h3 h.2.2)]
            rw [show (decide (x2 < c3) && decide (c2 < x3)) = false by simpa using h3] at S1
            clear h1 h2 h3
            unfold vCall at S1
            go_wp2_with fail
            refine (unhide S1 _).mono ?_
            rintro e w2 ⟨rfl, hb⟩
            replace HO1 := hide ((unhide HO1).step hb)
            replace HQ1 := hide ((unhide HQ1).step hb)
            replace HW1 := hide (Below.step (unhide HW1) hb)
            clear hb S1 o0 o1 o2 o3 o4 g0 g1 g2 g3 g4 HX
            go_wp2
            go_roundg (L.length - (k + 1))
            case measure => omega
            case rel => exact ⟨k + 1, by omega, rfl, by go_num, by rw [unhide ET]; exact HQ1, HO1, HW1⟩
    · obtain rfl : k = L.length := by omega
      have Q2 := hide (room_any gq n N m _ wr (unhide HQ) (unhide HEN) (by omega) (by omega) (by omega))
      have o1 := (unhide HO).cell (i := 1) rfl
      go_wp2_with fail
      refine (unhide Q2).mono ?_
      rintro e w2 ⟨rfl, hk2⟩
      have HW2 := hide ((unhide HW).trans (hk2.below (unhide HW).size fun b hb => by have := hb.1; omega))
      clear hk2 Q2 o1
      go_wp2
      go_ret
      exact ⟨rfl, unhide HW2⟩

end Go.Proofs.Ytogoknldhimgfaa

namespace Go.Proofs.Ytogoknldhimgfaa
open Go.RowKit Go.Conc

theorem ret_b17 {x b : Bool} (h : x = b) : (Ending.returned (.bool b)) = .returned (.bool x) := by rw [h]

set_option maxRecDepth 100000 in
set_option maxHeartbeats 8000000 in
theorem implClear17_any (v : Value) (long : Int) (L : List CallT) (w : World) (h : RCall w v L) :
    Calls Try.prog 18 #[.int .i64 long, v] w fun e w' => e = .returned (.bool (clB long L)) ∧ Below w.heap.size w w' := by
  have Q1 := hide (implCallsOk_any v long L w h)
  have HR := hide fun V (hV : Below w.heap.size w V) => h.below hV
  obtain ⟨ao, cap, rfl, hl, hmx, -⟩ := h
  unfold maxLen at hmx
  cases hb : caB long L with
  | false =>
    have HF := hide (clB_ca hb)
    rw [hb] at Q1
    go_enter Try.func18, Try.ntmps18
    go_wp2_with fail
    refine (unhide Q1).mono ?_
    rintro e w1 ⟨rfl, hbb⟩
    have HW := hide hbb
    clear hbb Q1 hb
    go_wp2
    go_ret
    exact ⟨ret_b17 (unhide HF), unhide HW⟩
  | true =>
  have hP := caB_iff.1 hb
  have HP := hide hP
  have hN := hP.1
  have h24 := hP.2.1
  rw [hb] at Q1
  clear hP hb
  obtain ⟨N, rfl⟩ : ∃ N : Nat, long = N := ⟨long.toNat, by omega⟩
  have Q2 := hide fun V => quayOf_any N V (by omega) (by omega)
  have Q3 := hide fun V (hV : Below w.heap.size w V) => inTurn_any ao L.length cap L V (unhide HR V hV) h24
  go_enter Try.func18, Try.ntmps18
  go_wp2_with fail
  refine (unhide Q1).mono ?_
  rintro e w1 ⟨rfl, hbb⟩
  have HW := hide hbb
  clear hbb Q1
  go_wp2_with fail
  refine (unhide Q2 _).mono ?_
  rintro e w2 ⟨rfl, hq, hbb⟩
  have hgs := hq.sz
  have hg0 := (unhide HW).size
  obtain ⟨gq, egq⟩ : ∃ g, g = w1.heap.size := ⟨_, rfl⟩
  obtain ⟨n, en⟩ : ∃ n, n = N + 1 := ⟨_, rfl⟩
  rw [← egq, ← en] at hq hgs ⊢
  have HQ := hide hq
  replace HW := hide (Below.step (unhide HW) hbb)
  have hgw : w.heap.size ≤ gq := by omega
  have hn1 : n ≤ 1001 := by omega
  have HEN := hide en
  clear hbb Q2 hq egq hg0 en
  go_wp2_with fail
  refine (unhide Q3 _ (unhide HW)).mono ?_
  rintro e w3 ⟨ge, E, rfl, hge, hoE, hT, hbb⟩
  have HE := hide hoE
  have HT := hide hT
  have hEl := hT.len
  replace HQ := hide ((unhide HQ).step hbb)
  replace HW := hide (Below.step (unhide HW) hbb)
  obtain ⟨SB, eSB⟩ : ∃ s, s = w3.heap.size := ⟨_, rfl⟩
  have hge2 : ge < SB := by rw [eSB]; exact hoE.lt
  have hSB : SB ≤ w3.heap.size := by omega
  have hgq : gq + n < ge := by omega
  have HN := hide (rowB_nil 31 5 eCall SB w3)
  have HQ0 : Hid (Qy w3 gq n 0 (cvL [])) := unhide HQ
  have HEL := hide hEl
  clear hbb Q3 hoE hT hge eSB HQ hEl hgs
  generalize hw9 : w3 = w9 at *
  clear hw9
  go_wp2
  go_loopg [6, 19] L.length (fun g yv kv wr => ∃ (k ym yc : Nat) (yo : Option Addr) (Y : List CallT), k ≤ L.length ∧ g = L.length - k ∧ kv = .int .i64 (k : Int) ∧ yv = .slice yo ym yc ∧ ym ≤ k ∧ SB ≤ wr.heap.size ∧ Hid (RowB 31 5 eCall SB wr yo ym yc Y) ∧ Hid (Lyg L E k Y) ∧ Hid (Qy wr gq n 0 (cvL Y)) ∧ Hid (OwnV wr ge (ints E)) ∧ Hid (Below w.heap.size w wr))
  case atStart => exact ⟨0, 0, 0, none, [], Nat.zero_le _, rfl, rfl, rfl, Nat.le_refl _, hSB, HN, Lyg.start _ _, HQ0, HE, HW⟩
  case round =>
    clear HN HQ0 HE HW hSB
    obtain ⟨k, ym, yc, yo, Y, hk, rfl, rfl, rfl, hym, hSB, HY, HLY, HQ, HE, HW⟩ := hrel
    by_cases hkn : k < L.length
    · obtain ⟨hi, ei⟩ := (unhide HT).lt hkn
      have ck := (unhide HE).cell (ints_atA (M := E) (p := k) (by rw [unhide HEL]; exact hkn))
      rw [ei] at ck
      have HPASS := hide fun h => (unhide HLY).pass h
      have HCL := hide fun h y hy hn => (unhide HLY).clash (unhide HP) (unhide HT) hkn h (y := y) hy hn
      have HNX := hide fun h ha => (unhide HLY).next (unhide HP) (unhide HT) hkn h ha
      have HNUM := hide ((unhide HLY).nums (unhide HP) (unhide HT) hk)
      have HAPT := hide (unhide HLY).apt
      have hcs := ((unhide HP).2.2 _ hi).2.1
      generalize eN E k = i at *
      clear ei
      obtain ⟨ao', cap', e', -, -, hcc⟩ := unhide HR wr (unhide HW)
      simp only [Value.slice.injEq] at e'
      obtain ⟨rfl, -, rfl⟩ := e'
      obtain ⟨b, o, x0, x1, x2, x3, x4, rfl, g0, g1, g2, g3, g4, EX⟩ := recCallAt hcc hi
      have ex : ca L i = (x0, x1, x2, x3, x4) := unhide EX
      rw [ex] at hcs HPASS HCL HNX
      obtain ⟨hx1, hx2, hx4⟩ : (1 ≤ x1 ∧ x1 ≤ 1000) ∧ (0 ≤ x2 ∧ x2 < x3 ∧ x3 ≤ 100000000) ∧ (x4 = -1 ∨ (0 ≤ x4 ∧ x4 + x1 ≤ (N : Int))) := hcs
      have hA := Below.alloc1 wr (.cells #[.int .i64 x0, .int .i64 x1, .int .i64 x2, .int .i64 x3, .int .i64 x4] 31)
      have HX := hide (ownV_alloc wr #[.int .i64 x0, .int .i64 x1, .int .i64 x2, .int .i64 x3, .int .i64 x4] 31)
      have HW1 := hide (Below.step (unhide HW) hA)
      have HQ1 := hide ((unhide HQ).step hA)
      have HE1 := hide ((unhide HE).step hA)
      have HY1 := hide ((unhide HY).below hA)
      have hki : (k : Int) < L.length := by omega
      have hii : (i : Int) < L.length := by omega
      have hYl := (unhide HY).len (by decide)
      have hS1 : SB ≤ (wr.alloc (.cells #[.int .i64 x0, .int .i64 x1, .int .i64 x2, .int .i64 x3, .int .i64 x4] 31)).heap.size := by rw [World.size_alloc]; omega
      have HYL := hide hYl
      clear EX ex hA HW HQ HE HY hcc hYl
      by_cases h4 : x4 = -1
      · have d4 : (x4 == -1) = true := by simp [h4]
        replace HPASS := hide (unhide HPASS h4)
        clear hx4 h4 HCL HNX
        go_wp2
        go_roundg (L.length - (k + 1))
        case measure => omega
        case rel => exact ⟨k + 1, ym, yc, yo, Y, by omega, rfl, by go_num, rfl, by omega, hS1, HY1, HPASS, HQ1, HE1, HW1⟩
      · have d4 : (x4 == -1) = false := by simp [h4]
        replace HCL := hide (unhide HCL h4)
        replace HNX := hide (unhide HNX h4)
        obtain ⟨p, rfl⟩ : ∃ p : Nat, x4 = p := ⟨x4.toNat, by omega⟩
        obtain ⟨q, rfl⟩ : ∃ q : Nat, x1 = q := ⟨x1.toNat, by omega⟩
        have hpq : p + q ≤ n := by have := unhide HEN; omega
        have hq1 : 1 ≤ q := by omega
        have QL := hide fun V hV hY => leave_any gq n SB yo ym yc Y x2 V hV hY (by omega) (by have := unhide HYL; omega) hn1 (fun y hy => by have := unhide HNUM y hy; have := unhide HEN; omega) (unhide HAPT)
        clear h4 hx4 HPASS
        obtain ⟨V1, eV⟩ : ∃ V, V = wr.alloc (.cells #[.int .i64 x0, .int .i64 (q : Int), .int .i64 x2, .int .i64 x3, .int .i64 (p : Int)] 31) := ⟨_, rfl⟩
        obtain ⟨gb, egb⟩ : ∃ g, g = wr.heap.size := ⟨_, rfl⟩
        rw [← eV] at HX HW1 HQ1 HE1 HY1 hS1
        have hgb : SB ≤ gb := by omega
        have HEV : Hid (V1 = wr.alloc (.cells #[.int .i64 x0, .int .i64 (q : Int), .int .i64 x2, .int .i64 x3, .int .i64 (p : Int)] 31)) := eV
        rw [← egb] at HX
        have y2 := (unhide HX).cell (i := 2) rfl
        have y4 := (unhide HX).cell (i := 4) rfl
        clear eV
        go_wp2_with fail
        rw [← unhide HEV, ← egb]
        clear HEV egb y2 y4
        refine (unhide QL _ (unhide HQ1) (unhide HY1)).mono ?_
        rintro e w4 ⟨so, ms, cs, rfl, hrow, hms, hq, hk2⟩
        have hqn : ∀ b, SB ≤ b → ¬ qyT gq n b := fun b h1 h2 => by have := h2.2; omega
        have HX2 := hide ((unhide HX).kept hk2 (hqn gb hgb))
        have HE2 := hide ((unhide HE1).kept hk2 (fun h2 => by have := h2.2; omega))
        have HW2 := hide ((unhide HW1).trans (hk2.below (unhide HW1).size fun b hb => by have := hb.1; omega))
        have hS2 : SB ≤ w4.heap.size := Nat.le_trans hS1 hk2.size
        have HY2 := hide (hrow.mono hS1)
        have HQ2 := hide hq
        have hmk : ms ≤ k := by have := unhide HYL; omega
        clear QL hrow hms hq hk2 HX HE1 HW1 HY1 HQ1 hS1 HYL g0 g1 g2 g3 g4 ck
        have HLI := hide (lie_any gq n p q x0 x2 x3 (cvL (stayL Y x2)) w4 (unhide HQ2) hq1 hpq hn1)
        have HCN := hide fun h => free_apt_no (Y := stayL Y x2) (c := (x0, (q : Int), x2, x3, (p : Int))) (p := p) (m := q) rfl rfl h
        have HCY := hide (free_apt (Y := stayL Y x2) (c := (x0, (q : Int), x2, x3, (p : Int))) (p := p) (m := q) rfl rfl).1
        rw [cov_cvL (Y := stayL Y x2) (c := (x0, (q : Int), x2, x3, (p : Int))) (p := p) (m := q) rfl rfl] at HLI
        replace HCL : Hid (∀ y, y ∈ stayL Y x2 → ¬ AptC y (x0, (q : Int), x2, x3, (p : Int)) → clB (N : Int) L = false) := unhide HCL
        replace HNX : Hid ((∀ y ∈ stayL Y x2, AptC y (x0, (q : Int), x2, x3, (p : Int))) → Lyg L E (k + 1) (stayL Y x2 ++ [(x0, (q : Int), x2, x3, (p : Int))])) := unhide HNX
        have y0 := (unhide HX2).cell (i := 0) rfl
        have y1 := (unhide HX2).cell (i := 1) rfl
        have y2 := (unhide HX2).cell (i := 2) rfl
        have y3 := (unhide HX2).cell (i := 3) rfl
        have y4 := (unhide HX2).cell (i := 4) rfl
        unfold vCall at HLI
        cases hf : freeB (cvL (stayL Y x2)) p q with
        | false =>
          have HF : Hid (clB (N : Int) L = false) := by
            obtain ⟨y, hy, hn⟩ := unhide HCN hf
            exact unhide HCL y hy hn
          rw [hf] at HLI
          clear hf
          go_wp2_with fail
          refine (unhide HLI).mono ?_
          rintro e w5 ⟨rfl, -, hk3⟩
          have HW3 := hide ((unhide HW2).trans (hk3.below (unhide HW2).size fun b hb => by have := hb.1; omega))
          clear hk3 HLI y0 y1 y2 y3 y4
          go_wp2
          go_ret
          exact ⟨ret_b17 (unhide HF), unhide HW3⟩
        | true =>
          have HLY2 := hide (unhide HNX (unhide HCY hf))
          rw [hf] at HLI
          clear hf HCN HCY HCL HNX
          go_wp2_with fail
          refine (unhide HLI).mono ?_
          rintro e w5 ⟨rfl, hq, hk3⟩
          have HW3 := hide ((unhide HW2).trans (hk3.below (unhide HW2).size fun b hb => by have := hb.1; omega))
          have HX3 := hide ((unhide HX2).kept hk3 (hqn gb hgb))
          have HE3 := hide ((unhide HE2).kept hk3 (fun h2 => by have := h2.2; omega))
          have HY3 := hide ((unhide HY2).kept hk3 (fun g _ hg _ => hqn g hg))
          have hS3 : SB ≤ w5.heap.size := Nat.le_trans hS2 hk3.size
          have HQ3 := hide hq
          clear hk3 hq HLI y0 y1 y2 y3 y4 HW2 HX2 HE2 HY2 HQ2 hS2
          have y0 := (unhide HX3).cell (i := 0) rfl
          have y1 := (unhide HX3).cell (i := 1) rfl
          have y2 := (unhide HX3).cell (i := 2) rfl
          have y3 := (unhide HX3).cell (i := 3) rfl
          have y4 := (unhide HX3).cell (i := 4) rfl
          have hA2 := Below.alloc1 w5 (.cells #[.int .i64 x0, .int .i64 (q : Int), .int .i64 x2, .int .i64 x3, .int .i64 (p : Int)] 31)
          have HG := hide (ownV_alloc w5 #[.int .i64 x0, .int .i64 (q : Int), .int .i64 x2, .int .i64 x3, .int .i64 (p : Int)] 31)
          replace HW3 := hide (Below.step (unhide HW3) hA2)
          replace HE3 := hide ((unhide HE3).step hA2)
          replace HY3 := hide ((unhide HY3).below hA2)
          replace HQ3 := hide ((unhide HQ3).step hA2)
          have hS4 : SB ≤ (w5.alloc (.cells #[.int .i64 x0, .int .i64 (q : Int), .int .i64 x2, .int .i64 x3, .int .i64 (p : Int)] 31)).heap.size := Nat.le_trans hS3 hA2.size
          clear hA2 HX3
          go_wp2_with (at_builtin; go_must (refine wpList_appRow tyCall _ rfl _ _ rfl SB so ms cs (stayL Y x2) rfl (unhide HY3) hS4 (by omega) w5.heap.size (x0, (q : Int), x2, x3, (p : Int)) 1 rfl (unhide HG) ?_); intro g' cap' w6 hL hK hBg hat; have HL2 := hide hL; have HKK := hide hK; clear hL hK hat)
          go_roundg (L.length - (k + 1))
          case measure => omega
          case rel =>
            have hbk := rowB_blk (unhide HY3) (by decide)
            have hws := (unhide HW3).size
            refine ⟨k + 1, ms + 1, cap', _, _, by omega, rfl, by go_num, rfl, by omega, Nat.le_trans hS4 (unhide HKK).size, HL2, HLY2, (unhide HQ3).kept (unhide HKK) (fun b _ hb hx => by have := hbk b hx; omega), (unhide HE3).kept (unhide HKK) (fun hx => by have := hbk ge hx; omega), (unhide HW3).trans ((unhide HKK).below hws fun b hb => by have := hbk b hb; omega)⟩
    · obtain rfl : k = L.length := by omega
      have HF : Hid (clB (N : Int) L = true) := clB_iff.2 ⟨unhide HP, (unhide HLY).done (unhide HT)⟩
      go_wp2
      go_ret
      exact ⟨ret_b17 (unhide HF), unhide HW⟩

end Go.Proofs.Ytogoknldhimgfaa

namespace Go.Proofs.Ytogoknldhimgfaa
open Go.RowKit

/-- The order itself. -/
def turnE (L : List CallT) : List Int := (plcs L.length).mergeSort fun x y => decide (bf (kyL L) x y ∨ x = y)
theorem turn_E (L : List CallT) : Turn L (turnE L) := by
  obtain ⟨n, en⟩ : ∃ n, n = L.length := ⟨_, rfl⟩
  obtain ⟨r, er⟩ : ∃ r, r = kyL L := ⟨_, rfl⟩
  unfold Turn turnE
  rw [← en, ← er]
  refine ⟨List.mergeSort_perm _ _, ?_⟩
  have hp := List.pairwise_mergeSort (le := fun x y => decide (bf r x y ∨ x = y)) (fun a b c h1 h2 => by
    simp only [decide_eq_true_eq] at *
    rcases h1 with h1 | rfl
    · rcases h2 with h2 | rfl
      · exact Or.inl (bf_trans h1 h2)
      · exact Or.inl h1
    · exact h2) (fun a b => by
    simp only [Bool.or_eq_true, decide_eq_true_eq]
    unfold bf
    omega) (plcs n)
  have hq := List.mergeSort_perm (plcs n) fun x y => decide (bf r x y ∨ x = y)
  generalize (plcs n).mergeSort (fun x y => decide (bf r x y ∨ x = y)) = P at *
  have hnd : P.Nodup := hq.nodup_iff.2 (by
    unfold plcs
    rw [List.nodup_iff_pairwise_ne, List.pairwise_map]
    exact List.pairwise_lt_range.imp fun h e => by have e2 := Int.ofNat.inj e; omega)
  have hl : P.length = n := by rw [hq.length_eq, plcs_len]
  intro i j _ hij hj
  have h1 := List.pairwise_iff_getElem.1 hp i j (by omega) (by omega) hij
  have h2 := List.pairwise_iff_getElem.1 (List.nodup_iff_pairwise_ne.1 hnd) i j (by omega) (by omega) hij
  simp only [decide_eq_true_eq] at h1
  unfold ix
  rw [getD_lt (by omega), getD_lt (by omega)]
  exact h1.resolve_right h2
/-- What BerthAll tells, as a value. -/
def baV (long : Int) (L : List CallT) : List CallT × Bool := if clB long L then (ba long L (turnE L) L.length, true) else ([], false)
theorem baV_no {long : Int} {L : List CallT} (h : clB long L = false) : baV long L = ([], false) := by unfold baV; rw [h]; rfl
theorem baV_yes {long : Int} {L : List CallT} {E : List Int} (h : clB long L = true) (hT : Turn L E) : baV long L = (ba long L E L.length, true) := by unfold baV; rw [h, hT.one (turn_E L)]; rfl
theorem baV_len (long : Int) (L : List CallT) : (baV long L).1.length ≤ L.length := by
  unfold baV
  split
  · rw [ba_len]; exact Nat.le_refl _
  · exact Nat.zero_le _
def BaAns (w : World) (M : List CallT) (C : Bool) (e : Ending) (w' : World) : Prop := ∃ a n c, e = .returned (.tuple #[.slice a n c, .bool C]) ∧ OwnR 5 eCall w.heap.size w' (.slice a n c) M ∧ Below w.heap.size w w'

set_option maxRecDepth 100000 in
set_option maxHeartbeats 4000000 in
theorem implBerth_any (v : Value) (long : Int) (L : List CallT) (id : Int) (w : World) (h : RCall w v L) :
    Calls Try.prog 19 #[.int .i64 long, v, .int .i64 id] w fun e w' => e = .returned (.tuple #[.int .i64 (berV long L id).1, .bool (berV long L id).2]) ∧ Below w.heap.size w w' := by
  have Q1 := hide (implClear17_any v long L w h)
  have HR := hide fun V (hV : Below w.heap.size w V) => h.below hV
  obtain ⟨ao, cap, rfl, hl, hmx, -⟩ := h
  unfold maxLen at hmx
  cases hb : clB long L with
  | false =>
    have HF := hide (berV_not (id := id) hb)
    rw [hb] at Q1
    go_enter Try.func19, Try.ntmps19
    go_wp2_with fail
    refine (unhide Q1).mono ?_
    rintro e w1 ⟨rfl, hbb⟩
    have HW := hide hbb
    clear hbb Q1 hb
    go_wp2
    refine bodyPost_ret (v := .tuple #[.int .i64 (-1), .bool false]) (by simp [results, Try.results19, go_sem]) rfl ⟨ret_ib17 (unhide HF), unhide HW⟩
  | true =>
  have hP := (clB_iff.1 hb).1
  have HP := hide hP
  have hN := hP.1
  have h24 := hP.2.1
  have HCB := hide hb
  rw [hb] at Q1
  clear hP hb
  obtain ⟨N, rfl⟩ : ∃ N : Nat, long = N := ⟨long.toNat, by omega⟩
  go_enter Try.func19, Try.ntmps19
  go_wp2_with fail
  refine (unhide Q1).mono ?_
  rintro e w1 ⟨rfl, hbb⟩
  have HW0 := hide hbb
  clear hbb Q1
  go_wp2
  go_loopg [17] L.length (fun g kv wr => ∃ k : Nat, k ≤ L.length ∧ g = L.length - k ∧ kv = .int .i64 (k : Int) ∧ Hid (∀ r, r < k → cId (ca L r) ≠ id) ∧ Hid (Below w.heap.size w wr))
  case atStart => exact ⟨0, Nat.zero_le _, rfl, rfl, fun r hr => by omega, HW0⟩
  case round =>
    clear HW0
    obtain ⟨k, hk, rfl, rfl, HNO, HW⟩ := hrel
    by_cases hkn : k < L.length
    · have HCS := hide ((unhide HP).2.2 k hkn).2.1.1
      have HAT := hide fun h => berV_at (id := id) (unhide HCB) hkn h
      obtain ⟨ao', cap', e', -, -, hcc⟩ := unhide HR wr (unhide HW)
      simp only [Value.slice.injEq] at e'
      obtain ⟨rfl, -, rfl⟩ := e'
      obtain ⟨b, o, x0, x1, x2, x3, x4, rfl, g0, g1, g2, g3, g4, EX⟩ := recCallAt hcc hkn
      have ex : ca L k = (x0, x1, x2, x3, x4) := unhide EX
      have HNX : Hid (x0 ≠ id → ∀ r, r < k + 1 → cId (ca L r) ≠ id) := fun h r hr => by
        by_cases e : r = k
        · rw [e, ex]; exact h
        · exact unhide HNO r (by omega)
      rw [ex] at HAT HCS
      have hx1 : 1 ≤ x1 ∧ x1 ≤ 1000 := unhide HCS
      replace HAT : Hid (x0 = id → berV (N : Int) L id = (lbV (N : Int) L (x0, x1, x2, x3, x4), decide (lbV (N : Int) L (x0, x1, x2, x3, x4) ≠ -1))) := unhide HAT
      have hA := Below.alloc1 wr (.cells #[.int .i64 x0, .int .i64 x1, .int .i64 x2, .int .i64 x3, .int .i64 x4] 31)
      have HX := hide (ownV_alloc wr #[.int .i64 x0, .int .i64 x1, .int .i64 x2, .int .i64 x3, .int .i64 x4] 31)
      have HW1 := hide (Below.step (unhide HW) hA)
      have hki : (k : Int) < L.length := by omega
      have Q2 := hide (leastBerth_any N _ L x0 x1 x2 x3 x4 _ (unhide HR _ (unhide HW1)) (unhide HP) hx1)
      clear EX ex hA HW hcc HCS
      by_cases h0 : x0 = id
      · have d0 : (x0 == id) = true := by simp [h0]
        replace HAT := hide (unhide HAT h0)
        generalize lbV (N : Int) L (x0, x1, x2, x3, x4) = z at *
        clear h0
        unfold vCall at Q2
        go_wp2_with fail
        refine (unhide Q2).mono ?_
        rintro e w2 ⟨rfl, hbb⟩
        replace HW1 := hide (Below.step (unhide HW1) hbb)
        clear hbb Q2 HX
        have dz : decide (z ≠ -1) = (z != -1) := by by_cases e : z = -1 <;> simp [e]
        rw [dz] at HAT
        clear dz
        go_wp2
        refine bodyPost_ret (v := .tuple #[.int .i64 z, .bool (z != -1)]) (by simp [results, Try.results19, go_sem]) rfl ⟨ret_ib17 (unhide HAT), unhide HW1⟩
      · have d0 : (x0 == id) = false := by simp [h0]
        replace HNX := hide (unhide HNX h0)
        clear h0 Q2
        go_wp2
        go_roundg (L.length - (k + 1))
        case measure => omega
        case rel => exact ⟨k + 1, by omega, rfl, by go_num, HNX, HW1⟩
    · obtain rfl : k = L.length := by omega
      have HF := hide (berV_none (long := (N : Int)) (L := L) (id := id) (unhide HNO))
      go_wp2
      refine bodyPost_ret (v := .tuple #[.int .i64 (-1), .bool false]) (by simp [results, Try.results19, go_sem]) rfl ⟨ret_ib17 (unhide HF), unhide HW⟩

end Go.Proofs.Ytogoknldhimgfaa

namespace Go.Proofs.Ytogoknldhimgfaa
open Go.RowKit

/-- Who meets whom, in numbers of 64 bits. -/
def MtW (a b : CallT) : Prop := 0 ≤ cAt a ∧ 0 ≤ cAt b ∧ cFr a < cTo b ∧ cFr b < cTo a ∧ cAt a < IntKind.i64.wrap (cAt b + cLg b) ∧ cAt b < IntKind.i64.wrap (cAt a + cLg a)
instance (a b : CallT) : Decidable (MtW a b) := by unfold MtW; infer_instance
theorem mtW_meet {a b : CallT} (ha : -1 ≤ cAt a ∧ cAt a ≤ 100000) (hb : -1 ≤ cAt b ∧ cAt b ≤ 100000) (la : 0 ≤ cLg a ∧ cLg a ≤ 1000) (lb : 0 ≤ cLg b ∧ cLg b ≤ 1000) : MtW a b ↔ MeetP a b := by
  unfold MtW MeetP
  rw [show IntKind.i64.wrap (cAt b + cLg b) = cAt b + cLg b by rw [IntKind.wrap_i64]; omega, show IntKind.i64.wrap (cAt a + cLg a) = cAt a + cLg a by rw [IntKind.wrap_i64]; omega]

set_option maxRecDepth 100000 in
set_option maxHeartbeats 8000000 in
theorem l17Meet_any (a0 a1 a2 a3 a4 b0 b1 b2 b3 b4 : Int) (w : World) :
    Calls Try.prog 76 #[vCall a0 a1 a2 a3 a4, vCall b0 b1 b2 b3 b4] w fun e w' => e = .returned (.bool (decide (MtW (a0, a1, a2, a3, a4) (b0, b1, b2, b3, b4)))) ∧ Below w.heap.size w w' := by
  have A := Below.alloc1 w (.cells #[.int .i64 a0, .int .i64 a1, .int .i64 a2, .int .i64 a3, .int .i64 a4] 31)
  obtain ⟨V, eV⟩ : ∃ V, V = w.alloc (.cells #[.int .i64 a0, .int .i64 a1, .int .i64 a2, .int .i64 a3, .int .i64 a4] 31) := ⟨_, rfl⟩
  rw [← eV] at A
  have A2 := Below.alloc1 V (.cells #[.int .i64 b0, .int .i64 b1, .int .i64 b2, .int .i64 b3, .int .i64 b4] 31)
  have HW := hide (Below.step A A2)
  subst eV
  clear A A2
  obtain ⟨z, ez⟩ : ∃ z, z = IntKind.i64.wrap (b4 + b1) := ⟨_, rfl⟩
  obtain ⟨y, ey⟩ : ∃ y, y = IntKind.i64.wrap (a4 + a1) := ⟨_, rfl⟩
  have HG : Hid (MtW (a0, a1, a2, a3, a4) (b0, b1, b2, b3, b4) ↔ 0 ≤ a4 ∧ 0 ≤ b4 ∧ a2 < b3 ∧ b2 < a3 ∧ a4 < z ∧ b4 < y) := by
    show _ ↔ _
    rw [ez, ey]
    exact Iff.rfl
  have q1 : IntKind.i64.wrap (b4 + b1) = z := ez.symm
  have q2 : IntKind.i64.wrap (a4 + a1) = y := ey.symm
  have HRT : Hid (MtW (a0, a1, a2, a3, a4) (b0, b1, b2, b3, b4) → decide (MtW (a0, a1, a2, a3, a4) (b0, b1, b2, b3, b4)) = true) := fun h => decide_eq_true h
  have HRF : Hid (¬ MtW (a0, a1, a2, a3, a4) (b0, b1, b2, b3, b4) → decide (MtW (a0, a1, a2, a3, a4) (b0, b1, b2, b3, b4)) = false) := fun h => decide_eq_false h
  generalize decide (MtW (a0, a1, a2, a3, a4) (b0, b1, b2, b3, b4)) = r at HRT HRF ⊢
  clear ez ey
  unfold vCall
  go_enter Try.func76, Try.ntmps76
  by_cases h1 : 0 ≤ a4
  case neg =>
    have d1 : decide (0 ≤ a4) = false := decide_eq_false h1
    have e1 : r = false := unhide HRF (fun h => by have h9 := (unhide HG).1 h; exact h1 h9.1)
    subst e1
    clear HRT HRF HG h1
    go_wp2
    go_ret
    exact ⟨rfl, unhide HW⟩
  have d1 : decide (0 ≤ a4) = true := decide_eq_true h1
  by_cases h2 : 0 ≤ b4
  case neg =>
    have d2 : decide (0 ≤ b4) = false := decide_eq_false h2
    have e1 : r = false := unhide HRF (fun h => by have h9 := (unhide HG).1 h; exact h2 h9.2.1)
    subst e1
    clear HRT HRF HG h2
    go_wp2
    go_ret
    exact ⟨rfl, unhide HW⟩
  have d2 : decide (0 ≤ b4) = true := decide_eq_true h2
  by_cases h3 : a2 < b3
  case neg =>
    have d3 : decide (a2 < b3) = false := decide_eq_false h3
    have e1 : r = false := unhide HRF (fun h => by have h9 := (unhide HG).1 h; exact h3 h9.2.2.1)
    subst e1
    clear HRT HRF HG h3
    go_wp2
    go_ret
    exact ⟨rfl, unhide HW⟩
  have d3 : decide (a2 < b3) = true := decide_eq_true h3
  by_cases h4 : b2 < a3
  case neg =>
    have d4 : decide (b2 < a3) = false := decide_eq_false h4
    have e1 : r = false := unhide HRF (fun h => by have h9 := (unhide HG).1 h; exact h4 h9.2.2.2.1)
    subst e1
    clear HRT HRF HG h4
    go_wp2
    go_ret
    exact ⟨rfl, unhide HW⟩
  have d4 : decide (b2 < a3) = true := decide_eq_true h4
  by_cases h5 : a4 < z
  case neg =>
    have d5 : decide (a4 < z) = false := decide_eq_false h5
    have e1 : r = false := unhide HRF (fun h => by have h9 := (unhide HG).1 h; exact h5 h9.2.2.2.2.1)
    subst e1
    clear HRT HRF HG h5
    go_wp2
    go_ret
    exact ⟨rfl, unhide HW⟩
  have d5 : decide (a4 < z) = true := decide_eq_true h5
  by_cases h6 : b4 < y
  case neg =>
    have d6 : decide (b4 < y) = false := decide_eq_false h6
    have e1 : r = false := unhide HRF (fun h => by have h9 := (unhide HG).1 h; exact h6 h9.2.2.2.2.2)
    subst e1
    clear HRT HRF HG h6
    go_wp2
    go_ret
    exact ⟨rfl, unhide HW⟩
  have d6 : decide (b4 < y) = true := decide_eq_true h6
  have e1 : r = true := unhide HRT ((unhide HG).2 ⟨h1, h2, h3, h4, h5, h6⟩)
  subst e1
  clear HRT HRF HG
  go_wp2
  go_ret
  exact ⟨rfl, unhide HW⟩

theorem ret_b17s {x b : Bool} (h : x = b) : (Ending.returned (.bool b)) = .returned (.bool x) := by rw [h]
/-- The k-th and the i-th call do not meet, as far as the numbers go. -/
def NmW (L : List CallT) (i k : Nat) : Prop := ¬ MtW (ca L i) (ca L k)
theorem caP_nums {long : Int} {L : List CallT} (h : CaP long L) {i : Nat} (hi : i < L.length) : (-1 ≤ cAt (ca L i) ∧ cAt (ca L i) ≤ 100000) ∧ (0 ≤ cLg (ca L i) ∧ cLg (ca L i) ≤ 1000) := by
  have h1 := h.1
  have h2 := (h.2.2 i hi).2.1.1
  have h3 := (h.2.2 i hi).2.1.2.2
  omega
theorem mtW_ca {long : Int} {L : List CallT} (h : CaP long L) {i k : Nat} (hi : i < L.length) (hk : k < L.length) : MtW (ca L i) (ca L k) ↔ MeetP (ca L i) (ca L k) :=
  mtW_meet (caP_nums h hi).1 (caP_nums h hk).1 (caP_nums h hi).2 (caP_nums h hk).2

set_option maxRecDepth 100000 in
set_option maxHeartbeats 8000000 in
theorem specClear17_any (v : Value) (long : Int) (L : List CallT) (w : World) (h : RCall w v L) :
    Calls Try.prog 30 #[.int .i64 long, v] w fun e w' => e = .returned (.bool (clB long L)) ∧ Below w.heap.size w w' := by
  have HR := hide fun V (hV : Below w.heap.size w V) => h.below hV
  have Q1 := hide fun V (hV : Below w.heap.size w V) => specCallsOk_any v long L V (unhide HR V hV)
  obtain ⟨ao, cap, rfl, hl, hmx, -⟩ := h
  unfold maxLen at hmx
  go_enter Try.func30, Try.ntmps30
  go_wp2
  go_loopg [5] L.length (fun g iv wr => ∃ i : Nat, i ≤ L.length ∧ g = L.length - i ∧ iv = .int .i64 (i : Int) ∧ Hid (∀ r, r < i → ∀ s, s < r → NmW L r s) ∧ Hid (Below w.heap.size w wr))
  case atStart => exact ⟨0, Nat.zero_le _, rfl, rfl, fun r hr => by omega, Below.refl _ _⟩
  case round =>
    obtain ⟨i, hi, rfl, rfl, HNO, HWo⟩ := hrel
    by_cases hin : i < L.length
    · have hii : (i : Int) < L.length := by omega
      generalize hwo : wr = wo at *
      clear hwo
      go_wp2
      go_loopg [6] i (fun g kv wr => ∃ k : Nat, k ≤ i ∧ g = i - k ∧ kv = .int .i64 (k : Int) ∧ Hid (∀ s, s < k → NmW L i s) ∧ Hid (Below w.heap.size w wr))
      case atStart => exact ⟨0, Nat.zero_le _, rfl, rfl, fun s hs => by omega, HWo⟩
      case round =>
        clear HWo
        obtain ⟨k, hk, rfl, rfl, HNK, HW⟩ := hrel
        by_cases hki : k < i
        · have hki2 : (k : Int) < i := by omega
          have hkl : (k : Int) < L.length := by omega
          have hkn : k < L.length := by omega
          obtain ⟨ao', cap', e', -, -, hcc⟩ := unhide HR wr (unhide HW)
          simp only [Value.slice.injEq] at e'
          obtain ⟨rfl, -, rfl⟩ := e'
          obtain ⟨b, o, x0, x1, x2, x3, x4, rfl, g0, g1, g2, g3, g4, EX⟩ := recCallAt hcc hin
          obtain ⟨b', o', y0, y1, y2, y3, y4, e', f0, f1, f2, f3, f4, EY⟩ := recCallAt hcc hkn
          simp only [Option.some.injEq, Addr.mk.injEq, and_true] at e'
          obtain ⟨rfl, rfl⟩ := e'
          have ex : ca L i = (x0, x1, x2, x3, x4) := unhide EX
          have ey : ca L k = (y0, y1, y2, y3, y4) := unhide EY
          have HM : Hid (MtW (x0, x1, x2, x3, x4) (y0, y1, y2, y3, y4) → clB long L = false) := fun hm => clB_meet hin hkn (by omega) fun hP => (mtW_ca hP hin hkn).1 (by rw [ex, ey]; exact hm)
          have HNX : Hid (¬ MtW (x0, x1, x2, x3, x4) (y0, y1, y2, y3, y4) → ∀ s, s < k + 1 → NmW L i s) := fun hm s hs => by
            by_cases e : s = k
            · rw [e]; unfold NmW; rw [ex, ey]; exact hm
            · exact unhide HNK s (by omega)
          have r0 := fun x : Gr wr => gr_cell g0 x
          have r1 := fun x : Gr wr => gr_cell g1 x
          have r2 := fun x : Gr wr => gr_cell g2 x
          have r3 := fun x : Gr wr => gr_cell g3 x
          have r4 := fun x : Gr wr => gr_cell g4 x
          have t0 := fun x : Gr wr => gr_cell f0 x
          have t1 := fun x : Gr wr => gr_cell f1 x
          have t2 := fun x : Gr wr => gr_cell f2 x
          have t3 := fun x : Gr wr => gr_cell f3 x
          have t4 := fun x : Gr wr => gr_cell f4 x
          have S1 := hide fun x : Gr wr => l17Meet_any x0 x1 x2 x3 x4 y0 y1 y2 y3 y4 x.val
          have HD1 : Hid (MtW (x0, x1, x2, x3, x4) (y0, y1, y2, y3, y4) ↔ decide (MtW (x0, x1, x2, x3, x4) (y0, y1, y2, y3, y4)) = true) := ⟨fun h => decide_eq_true h, of_decide_eq_true⟩
          generalize decide (MtW (x0, x1, x2, x3, x4) (y0, y1, y2, y3, y4)) = mb at *
          unfold vCall at S1
          have gsome := gr_some wr
          clear EX EY ex ey hcc g0 g1 g2 g3 g4 f0 f1 f2 f3 f4 HNK
          go_wp2
          refine wp_region_grown (by kernel_rfl) (by kernel_rfl) ?_
          repeat (go_big_quiet_step (fail))
          go_big_quiet_want
          go_big_quiet_op
          go_big_quiet_call (exact calls_grown (unhide S1 _))
          repeat (go_big_quiet_step (fail))
          refine wpQuiet_nil ?_
          intro w1 hw1
          obtain ⟨z', hz⟩ := hw1
          have hb1 : Below wr.heap.size wr w1 := hz ▸ z'.ok
          have HW1 := hide (Below.step (unhide HW) hb1)
          clear hz gsome r0 r1 r2 r3 r4 t0 t1 t2 t3 t4 S1 hb1 z'
          cases mb with
          | true =>
            have HF := hide (unhide HM ((unhide HD1).2 rfl))
            go_wp2
            go_ret
            exact ⟨ret_b17s (unhide HF), unhide HW1⟩
          | false =>
            have HNX2 := hide (unhide HNX (fun h => by have := (unhide HD1).1 h; cases this))
            go_wp2
            go_roundg (i - (k + 1))
            case measure => omega
            case rel => exact ⟨k + 1, by omega, rfl, by go_num, HNX2, HW1⟩
        · obtain rfl : k = i := by omega
          go_wp2
          go_roundg (L.length - (k + 1))
          case measure => omega
          case rel => exact ⟨k + 1, by omega, rfl, by go_num, fun r hr => by
            by_cases e : r = k
            · subst e; exact unhide HNK
            · exact unhide HNO r (by omega), HW⟩
    · obtain rfl : i = L.length := by omega
      have HF : Hid (clB long L = caB long L) := by
        show _ = _
        rw [Bool.eq_iff_iff, clB_iff, caB_iff]
        exact ⟨fun h => h.1, fun h => ⟨h, fun r hr s hs hm => unhide HNO r hr s hs ((mtW_ca h hr (by omega)).2 hm)⟩⟩
      go_wp2_with fail
      refine (unhide Q1 _ (unhide HWo)).mono ?_
      rintro e w2 ⟨rfl, hbb⟩
      have HW1 := hide (Below.step (unhide HWo) hbb)
      clear hbb Q1
      generalize caB long L = cb at *
      go_wp2
      go_ret
      exact ⟨ret_b17s (unhide HF), unhide HW1⟩

end Go.Proofs.Ytogoknldhimgfaa

namespace Go.Proofs.Ytogoknldhimgfaa
open Go.RowKit

/-- The i-th call at the place p meets none of the first k others. -/
def frB (L : List CallT) (i p : Nat) : Nat → Bool
  | 0 => true
  | k + 1 => frB L i p k && (decide (k = i) || !(decide (MeetP (setAt (ca L i) p) (ca L k))))
theorem frB_iff {L : List CallT} {i p : Nat} : ∀ {k : Nat}, frB L i p k = true ↔ ∀ s, s < k → s ≠ i → ¬ MeetP (setAt (ca L i) p) (ca L s)
  | 0 => ⟨fun _ s hs => by omega, fun _ => rfl⟩
  | k + 1 => by
    simp only [frB, Bool.and_eq_true, Bool.or_eq_true, decide_eq_true_eq, Bool.not_eq_true', decide_eq_false_iff_not]
    rw [frB_iff]
    constructor
    · rintro ⟨h1, h2⟩ s hs hne
      by_cases e : s = k
      · subst e; exact h2.resolve_left hne
      · exact h1 s (by omega) hne
    · intro h
      refine ⟨fun s hs hne => h s (by omega) hne, ?_⟩
      by_cases e : k = i
      · exact Or.inl e
      · exact Or.inr (h k (by omega) e)
theorem frB_free {long : Int} {L : List CallT} (h : CaP long L) {i p : Nat} (hi : i < L.length) : frB L i p L.length = freeB (tkB L (ca L i) L.length) p (cLg (ca L i)).toNat := by
  rw [Bool.eq_iff_iff, frB_iff, free_meet h hi]

set_option maxRecDepth 100000 in
set_option maxHeartbeats 8000000 in
theorem specBerth_any (v : Value) (long : Int) (L : List CallT) (id : Int) (w : World) (h : RCall w v L) :
    Calls Try.prog 31 #[.int .i64 long, v, .int .i64 id] w fun e w' => e = .returned (.tuple #[.int .i64 (berV long L id).1, .bool (berV long L id).2]) ∧ Below w.heap.size w w' := by
  have Q1 := hide (specClear17_any v long L w h)
  have HR := hide fun V (hV : Below w.heap.size w V) => h.below hV
  obtain ⟨ao, cap, rfl, hl, hmx, -⟩ := h
  unfold maxLen at hmx
  cases hb : clB long L with
  | false =>
    have HF := hide (berV_not (id := id) hb)
    rw [hb] at Q1
    go_enter Try.func31, Try.ntmps31
    go_wp2_with fail
    refine (unhide Q1).mono ?_
    rintro e w1 ⟨rfl, hbb⟩
    have HW := hide hbb
    clear hbb Q1 hb
    go_wp2
    refine bodyPost_ret (v := .tuple #[.int .i64 (-1), .bool false]) (by simp [results, Try.results31, go_sem]) rfl ⟨ret_ib17 (unhide HF), unhide HW⟩
  | true =>
  have hP := (clB_iff.1 hb).1
  have HP := hide hP
  have hN := hP.1
  have h24 := hP.2.1
  have HCB := hide hb
  rw [hb] at Q1
  clear hP hb
  obtain ⟨N, rfl⟩ : ∃ N : Nat, long = N := ⟨long.toNat, by omega⟩
  go_enter Try.func31, Try.ntmps31
  go_wp2_with fail
  refine (unhide Q1).mono ?_
  rintro e w1 ⟨rfl, hbb⟩
  have HW0 := hide hbb
  clear hbb Q1
  go_wp2
  go_loopg [8] L.length (fun g iv wr => ∃ i : Nat, i ≤ L.length ∧ g = L.length - i ∧ iv = .int .i64 (i : Int) ∧ Hid (∀ r, r < i → cId (ca L r) = id → lbV (N : Int) L (ca L r) = -1) ∧ Hid (Below w.heap.size w wr))
  case atStart => exact ⟨0, Nat.zero_le _, rfl, rfl, fun r hr => by omega, HW0⟩
  case round =>
    clear HW0
    obtain ⟨i, hi, rfl, rfl, HNO, HW⟩ := hrel
    by_cases hin : i < L.length
    · have HAT := hide fun h => berV_at (id := id) (unhide HCB) hin h
      have HFR := hide fun p => frB_free (unhide HP) (i := i) (p := p) hin
      have HCS := hide ((unhide HP).2.2 i hin).2.1
      have HLB : Hid (lbV (N : Int) L (ca L i) = leastV (tkB L (ca L i) L.length) (cLg (ca L i)).toNat N) := rfl
      obtain ⟨ao', cap', e', -, -, hcc⟩ := unhide HR wr (unhide HW)
      simp only [Value.slice.injEq] at e'
      obtain ⟨rfl, -, rfl⟩ := e'
      obtain ⟨b, o, x0, x1, x2, x3, x4, rfl, g0, g1, g2, g3, g4, EX⟩ := recCallAt hcc hin
      have ex : ca L i = (x0, x1, x2, x3, x4) := unhide EX
      have HFB : Hid (∀ p k, frB L i p (k + 1) = (frB L i p k && (decide (k = i) || !(decide (MeetP (x0, x1, x2, x3, (p : Int)) (ca L k)))))) := fun p k => by
        show frB L i p (k + 1) = _
        simp only [frB]
        rw [ex]
        rfl
      rw [ex] at HAT HFR HCS HLB
      obtain ⟨hx1, -, hx4⟩ : (1 ≤ x1 ∧ x1 ≤ 1000) ∧ (0 ≤ x2 ∧ x2 < x3 ∧ x3 ≤ 100000000) ∧ (x4 = -1 ∨ (0 ≤ x4 ∧ x4 + x1 ≤ (N : Int))) := unhide HCS
      have hA := Below.alloc1 wr (.cells #[.int .i64 x0, .int .i64 x1, .int .i64 x2, .int .i64 x3, .int .i64 x4] 31)
      have HX := hide (ownV_alloc wr #[.int .i64 x0, .int .i64 x1, .int .i64 x2, .int .i64 x3, .int .i64 x4] 31)
      have HW1 := hide (Below.step (unhide HW) hA)
      have hii : (i : Int) < L.length := by omega
      have hws := (unhide HW).size
      have HNX : Hid ((x0 = id → lbV (N : Int) L (x0, x1, x2, x3, x4) = -1) → ∀ r, r < i + 1 → cId (ca L r) = id → lbV (N : Int) L (ca L r) = -1) := fun h r hr he => by
        by_cases e : r = i
        · subst e; rw [ex] at he ⊢; exact h he
        · exact unhide HNO r (by omega) he
      clear EX ex hA HW hcc HCS
      by_cases h0 : x0 = id
      · have d0 : (x0 != id) = false := by simp [h0]
        replace HAT := hide (unhide HAT h0)
        replace HNX : Hid (lbV (N : Int) L (x0, x1, x2, x3, x4) = -1 → ∀ r, r < i + 1 → cId (ca L r) = id → lbV (N : Int) L (ca L r) = -1) := fun h => unhide HNX (fun _ => h)
        obtain ⟨m, rfl⟩ : ∃ m : Nat, x1 = m := ⟨x1.toNat, by omega⟩
        rw [unhide HLB] at HAT HNX
        replace HAT : Hid (berV (N : Int) L id = (leastV (tkB L (x0, (m : Int), x2, x3, x4) L.length) m N, decide (leastV (tkB L (x0, (m : Int), x2, x3, x4) L.length) m N ≠ -1))) := unhide HAT
        replace HNX : Hid (leastV (tkB L (x0, (m : Int), x2, x3, x4) L.length) m N = -1 → ∀ r, r < i + 1 → cId (ca L r) = id → lbV (N : Int) L (ca L r) = -1) := unhide HNX
        replace HFR : Hid (∀ p, frB L i p L.length = freeB (tkB L (x0, (m : Int), x2, x3, x4) L.length) p m) := unhide HFR
        generalize tkB L (x0, (m : Int), x2, x3, x4) L.length = B at *
        clear h0 HLB
        obtain ⟨gx, egx⟩ : ∃ g, g = wr.heap.size := ⟨_, rfl⟩
        have hgx : w.heap.size ≤ gx := by omega
        obtain ⟨V1, eV⟩ : ∃ V, V = wr.alloc (.cells #[.int .i64 x0, .int .i64 (m : Int), .int .i64 x2, .int .i64 x3, .int .i64 x4] 31) := ⟨_, rfl⟩
        go_wp2
        rw [← eV] at HX HW1 ⊢
        rw [← egx] at HX ⊢
        have HVX : Hid (∃ a, OwnV V1 gx [.int .i64 x0, .int .i64 (m : Int), .int .i64 x2, .int .i64 x3, .int .i64 a]) := ⟨x4, unhide HX⟩
        clear HX eV egx hws g0 g1 g2 g3 g4
        go_loopg [10] (N + 1) (fun g pv wr => ∃ p : Nat, p ≤ N + 1 ∧ g = N + 1 - p ∧ pv = .int .i64 (p : Int) ∧ Hid (∀ q, q < p → freeB B q m = false) ∧ Hid (∃ a, OwnV wr gx [.int .i64 x0, .int .i64 (m : Int), .int .i64 x2, .int .i64 x3, .int .i64 a]) ∧ Hid (Below w.heap.size w wr))
        case atStart => exact ⟨0, Nat.zero_le _, rfl, rfl, fun q hq => by omega, HVX, HW1⟩
        case round =>
          clear HVX HW1
          obtain ⟨p, hp, rfl, rfl, HNF, HVX, HW⟩ := hrel
          obtain ⟨a, hxa⟩ := unhide HVX
          have HX := hide hxa
          have c1 := hxa.cell (i := 1) rfl
          clear hxa HVX
          obtain ⟨e0, ee0⟩ : ∃ e : Nat, e = p + m := ⟨_, rfl⟩
          have q1 : IntKind.i64.wrap ((p : Int) + (m : Int)) = (e0 : Int) := by rw [IntKind.wrap_i64]; omega
          have q2 : (p : Int) + (m : Int) = (e0 : Int) := by omega
          have HEE := hide ee0
          clear ee0
          by_cases hpl : e0 ≤ N
          · have hpi : (e0 : Int) ≤ (N : Int) := by omega
            have hp1 : p + 1 ≤ N + 1 := by have := unhide HEE; omega
            have c4 := (unhide HX).cell (i := 4) rfl
            have fz := (unhide HX).frozen 4
            have HX2 : Hid (OwnV (wr.setCell ⟨gx, 4, none⟩ (.int .i64 (p : Int))) gx [.int .i64 x0, .int .i64 (m : Int), .int .i64 x2, .int .i64 x3, .int .i64 (p : Int)]) := (unhide HX).set 4 _ (by simp)
            have HW2 := hide ((unhide HW).setCell (p := ⟨gx, 4, none⟩) hgx (.int .i64 (p : Int)))
            clear HX HW
            go_wp2
            clear q1 q2 c1 c4 fz
            generalize hw8 : wr.setCell ⟨gx, 4, none⟩ (.int .i64 (p : Int)) = w8 at *
            clear hw8
            go_loopg [11, 12] L.length (fun g fv kv wr => ∃ k : Nat, k ≤ L.length ∧ g = L.length - k ∧ kv = .int .i64 (k : Int) ∧ fv = .bool (frB L i p k) ∧ Hid (OwnV wr gx [.int .i64 x0, .int .i64 (m : Int), .int .i64 x2, .int .i64 x3, .int .i64 (p : Int)]) ∧ Hid (Below w.heap.size w wr))
            case atStart => exact ⟨0, Nat.zero_le _, rfl, rfl, rfl, HX2, HW2⟩
            case round =>
              clear HX2 HW2
              obtain ⟨k, hk, rfl, rfl, rfl, HX, HW⟩ := hrel
              by_cases hkn : k < L.length
              · have hki : (k : Int) < L.length := by omega
                have gsome := gr_some wr
                have HFK := hide (unhide HFB p k)
                cases hfb : frB L i p k with
                | false =>
                  rw [hfb, Bool.false_and] at HFK
                  clear hfb
                  go_wp2
                  refine wp_region_grown (by kernel_rfl) (by kernel_rfl) ?_
                  repeat (go_big_quiet_step (fail))
                  skip
                  refine wpQuiet_nil ?_
                  intro w5 hw5
                  obtain ⟨z', hz⟩ := hw5
                  have hb1 : Below wr.heap.size wr w5 := hz ▸ z'.ok
                  have HW1 := hide (Below.step (unhide HW) hb1)
                  have HX1 := hide ((unhide HX).step hb1)
                  clear hz hb1 z' gsome
                  go_wp2
                  go_roundg (L.length - (k + 1))
                  case measure => omega
                  case rel => exact ⟨k + 1, by omega, rfl, by go_num, by rw [unhide HFK], HX1, HW1⟩
                | true =>
                  rw [hfb, Bool.true_and] at HFK
                  clear hfb
                  by_cases hkk : k = i
                  · have dk : ((k : Int) == (i : Int)) = true := by simp; omega
                    rw [decide_eq_true hkk, Bool.true_or] at HFK
                    clear hkk
                    go_wp2
                    refine wp_region_grown (by kernel_rfl) (by kernel_rfl) ?_
                    repeat (go_big_quiet_step (fail))
                    skip
                    refine wpQuiet_nil ?_
                    intro w5 hw5
                    obtain ⟨z', hz⟩ := hw5
                    have hb1 : Below wr.heap.size wr w5 := hz ▸ z'.ok
                    have HW1 := hide (Below.step (unhide HW) hb1)
                    have HX1 := hide ((unhide HX).step hb1)
                    clear hz hb1 z' gsome
                    go_wp2
                    go_roundg (L.length - (k + 1))
                    case measure => omega
                    case rel => exact ⟨k + 1, by omega, rfl, by go_num, by rw [unhide HFK], HX1, HW1⟩
                  · have dk : ((k : Int) == (i : Int)) = false := by simp; omega
                    rw [decide_eq_false hkk, Bool.false_or] at HFK
                    obtain ⟨ao', cap', e', -, -, hcc⟩ := unhide HR wr (unhide HW)
                    simp only [Value.slice.injEq] at e'
                    obtain ⟨rfl, -, rfl⟩ := e'
                    obtain ⟨b', o', y0, y1, y2, y3, y4, e', f0, f1, f2, f3, f4, EY⟩ := recCallAt hcc hkn
                    simp only [Option.some.injEq, Addr.mk.injEq, and_true] at e'
                    obtain ⟨rfl, rfl⟩ := e'
                    have ey : ca L k = (y0, y1, y2, y3, y4) := unhide EY
                    have hny := caP_nums (unhide HP) hkn
                    rw [ey] at HFK hny
                    have HMM := mtW_meet (a := (x0, (m : Int), x2, x3, (p : Int))) (b := (y0, y1, y2, y3, y4)) (by show -1 ≤ (p : Int) ∧ (p : Int) ≤ 100000; omega) hny.1 (by show 0 ≤ (m : Int) ∧ (m : Int) ≤ 1000; omega) hny.2
                    have S1 := hide fun x : Gr wr => l17Meet_any x0 (m : Int) x2 x3 (p : Int) y0 y1 y2 y3 y4 x.val
                    have HDD : decide (MtW (x0, (m : Int), x2, x3, (p : Int)) (y0, y1, y2, y3, y4)) = decide (MeetP (x0, (m : Int), x2, x3, (p : Int)) (y0, y1, y2, y3, y4)) := by rw [decide_eq_decide]; exact HMM
                    rw [HDD] at S1
                    generalize decide (MeetP (x0, (m : Int), x2, x3, (p : Int)) (y0, y1, y2, y3, y4)) = mb at *
                    unfold vCall at S1
                    have r0 := fun x : Gr wr => gr_cell ((unhide HX).cell (i := 0) rfl) x
                    have r1 := fun x : Gr wr => gr_cell ((unhide HX).cell (i := 1) rfl) x
                    have r2 := fun x : Gr wr => gr_cell ((unhide HX).cell (i := 2) rfl) x
                    have r3 := fun x : Gr wr => gr_cell ((unhide HX).cell (i := 3) rfl) x
                    have r4 := fun x : Gr wr => gr_cell ((unhide HX).cell (i := 4) rfl) x
                    have t0 := fun x : Gr wr => gr_cell f0 x
                    have t1 := fun x : Gr wr => gr_cell f1 x
                    have t2 := fun x : Gr wr => gr_cell f2 x
                    have t3 := fun x : Gr wr => gr_cell f3 x
                    have t4 := fun x : Gr wr => gr_cell f4 x
                    clear HDD HMM hny ey EY f0 f1 f2 f3 f4 hcc hkk
                    go_wp2
                    refine wp_region_grown (by kernel_rfl) (by kernel_rfl) ?_
                    repeat (go_big_quiet_step (fail))
                    go_big_quiet_want
                    go_big_quiet_op
                    go_big_quiet_call (exact calls_grown (unhide S1 _))
                    repeat (go_big_quiet_step (fail))
                    refine wpQuiet_nil ?_
                    intro w5 hw5
                    obtain ⟨z', hz⟩ := hw5
                    have hb1 : Below wr.heap.size wr w5 := hz ▸ z'.ok
                    have HW1 := hide (Below.step (unhide HW) hb1)
                    have HX1 := hide ((unhide HX).step hb1)
                    clear hz hb1 z' gsome r0 r1 r2 r3 r4 t0 t1 t2 t3 t4 S1
                    go_wp2
                    go_roundg (L.length - (k + 1))
                    case measure => omega
                    case rel => exact ⟨k + 1, by omega, rfl, by go_num, by rw [unhide HFK], HX1, HW1⟩
              · obtain rfl : k = L.length := by omega
                rw [unhide HFR p]
                cases hf : freeB B p m with
                | true =>
                  have HV : Hid (leastV B m N = (p : Int)) := leastV_at (by have := unhide HEE; omega) hf (unhide HNF)
                  have HF : Hid (berV (N : Int) L id = ((p : Int), true)) := by
                    show _ = _
                    rw [unhide HAT, unhide HV]
                    have : ¬ ((p : Int) = -1) := by omega
                    simp [this]
                  go_wp2
                  refine bodyPost_ret (v := .tuple #[.int .i64 (p : Int), .bool true]) (by simp [results, Try.results31, go_sem]) rfl ⟨ret_ib17 (unhide HF), unhide HW⟩
                | false =>
                  have HNF2 : Hid (∀ q, q < p + 1 → freeB B q m = false) := fun q hq => by
                    by_cases e : q = p
                    · subst e; exact hf
                    · exact unhide HNF q (by omega)
                  clear hf
                  go_wp2
                  go_roundg (N + 1 - (p + 1))
                  case measure => omega
                  case rel => exact ⟨p + 1, hp1, rfl, by go_num, HNF2, ⟨_, unhide HX⟩, HW⟩
          · have hpi : ¬ (e0 : Int) ≤ (N : Int) := by omega
            have HV : Hid (leastV B m N = -1) := leastV_no (fun q hq => unhide HNF q (by have := unhide HEE; omega)) (by omega)
            have HN2 := hide (unhide HNX (unhide HV))
            go_wp2
            go_roundg (L.length - (i + 1))
            case measure => omega
            case rel => exact ⟨i + 1, by omega, rfl, by go_num, HN2, HW⟩
      · have d0 : (x0 != id) = true := by simp [h0]
        replace HNX := hide (unhide HNX (fun h => absurd h h0))
        clear h0
        go_wp2
        go_roundg (L.length - (i + 1))
        case measure => omega
        case rel => exact ⟨i + 1, by omega, rfl, by go_num, HNX, HW1⟩
    · obtain rfl : i = L.length := by omega
      have HF : Hid (berV (N : Int) L id = (-1, false)) := by
        show _ = _
        by_cases he : ∃ r, r < L.length ∧ cId (ca L r) = id
        · obtain ⟨r, h1, h2⟩ := he
          rw [berV_at (unhide HCB) h1 h2, unhide HNO r h1 h2]
          rfl
        · exact berV_none fun r hr he2 => he ⟨r, hr, he2⟩
      go_wp2
      refine bodyPost_ret (v := .tuple #[.int .i64 (-1), .bool false]) (by simp [results, Try.results31, go_sem]) rfl ⟨ret_ib17 (unhide HF), unhide HW⟩

end Go.Proofs.Ytogoknldhimgfaa

/- The contract of the program's Clear17. -/
import Derived.Test.YtogoknldhimgfaaQyB
import Derived.Test.YtogoknldhimgfaaQyC
import Derived.Test.YtogoknldhimgfaaBeA
namespace Go.Proofs.Ytogoknldhimgfaa
open Go.RowKit Go.Conc

theorem ret_b17 {x b : Bool} (h : x = b) : (Ending.returned (.bool b)) = .returned (.bool x) := by rw [h]

set_option maxRecDepth 100000 in
set_option maxHeartbeats 8000000 in
theorem implClear17_any (v : Value) (long : Int) (L : List CallT) (w : World) (h : RCall w v L) :
    Calls Try.prog 18 #[.int .i64 long, v] w fun e w' => e = .returned (.bool (clB long L)) ∧ Below w.heap.size w w' := by
  have Q1 := hide (implCallsOk_any v long L w h)
  have HR := hide fun V (hV : Below w.heap.size w V) => h.below hV
  obtain ⟨ao, cap, rfl, hl, hmx, -⟩ := h
  unfold maxLen at hmx
  cases hb : caB long L with
  | false =>
    have HF := hide (clB_ca hb)
    rw [hb] at Q1
    go_enter Try.func18, Try.ntmps18
    go_wp2_with fail
    refine (unhide Q1).mono ?_
    rintro e w1 ⟨rfl, hbb⟩
    have HW := hide hbb
    clear hbb Q1 hb
    go_wp2
    go_ret
    exact ⟨ret_b17 (unhide HF), unhide HW⟩
  | true =>
  have hP := caB_iff.1 hb
  have HP := hide hP
  have hN := hP.1
  have h24 := hP.2.1
  rw [hb] at Q1
  clear hP hb
  obtain ⟨N, rfl⟩ : ∃ N : Nat, long = N := ⟨long.toNat, by omega⟩
  have Q2 := hide fun V => quayOf_any N V (by omega) (by omega)
  have Q3 := hide fun V (hV : Below w.heap.size w V) => inTurn_any ao L.length cap L V (unhide HR V hV) h24
  go_enter Try.func18, Try.ntmps18
  go_wp2_with fail
  refine (unhide Q1).mono ?_
  rintro e w1 ⟨rfl, hbb⟩
  have HW := hide hbb
  clear hbb Q1
  go_wp2_with fail
  refine (unhide Q2 _).mono ?_
  rintro e w2 ⟨rfl, hq, hbb⟩
  have hgs := hq.sz
  have hg0 := (unhide HW).size
  obtain ⟨gq, egq⟩ : ∃ g, g = w1.heap.size := ⟨_, rfl⟩
  obtain ⟨n, en⟩ : ∃ n, n = N + 1 := ⟨_, rfl⟩
  rw [← egq, ← en] at hq hgs ⊢
  have HQ := hide hq
  replace HW := hide (Below.step (unhide HW) hbb)
  have hgw : w.heap.size ≤ gq := by omega
  have hn1 : n ≤ 1001 := by omega
  have HEN := hide en
  clear hbb Q2 hq egq hg0 en
  go_wp2_with fail
  refine (unhide Q3 _ (unhide HW)).mono ?_
  rintro e w3 ⟨ge, E, rfl, hge, hoE, hT, hbb⟩
  have HE := hide hoE
  have HT := hide hT
  have hEl := hT.len
  replace HQ := hide ((unhide HQ).step hbb)
  replace HW := hide (Below.step (unhide HW) hbb)
  obtain ⟨SB, eSB⟩ : ∃ s, s = w3.heap.size := ⟨_, rfl⟩
  have hge2 : ge < SB := by rw [eSB]; exact hoE.lt
  have hSB : SB ≤ w3.heap.size := by omega
  have hgq : gq + n < ge := by omega
  have HN := hide (rowB_nil 31 5 eCall SB w3)
  have HQ0 : Hid (Qy w3 gq n 0 (cvL [])) := unhide HQ
  have HEL := hide hEl
  clear hbb Q3 hoE hT hge eSB HQ hEl hgs
  generalize hw9 : w3 = w9 at *
  clear hw9
  go_wp2
  go_loopg [6, 19] L.length (fun g yv kv wr => ∃ (k ym yc : Nat) (yo : Option Addr) (Y : List CallT), k ≤ L.length ∧ g = L.length - k ∧ kv = .int .i64 (k : Int) ∧ yv = .slice yo ym yc ∧ ym ≤ k ∧ SB ≤ wr.heap.size ∧ Hid (RowB 31 5 eCall SB wr yo ym yc Y) ∧ Hid (Lyg L E k Y) ∧ Hid (Qy wr gq n 0 (cvL Y)) ∧ Hid (OwnV wr ge (ints E)) ∧ Hid (Below w.heap.size w wr))
  case atStart => exact ⟨0, 0, 0, none, [], Nat.zero_le _, rfl, rfl, rfl, Nat.le_refl _, hSB, HN, Lyg.start _ _, HQ0, HE, HW⟩
  case round =>
    clear HN HQ0 HE HW hSB
    obtain ⟨k, ym, yc, yo, Y, hk, rfl, rfl, rfl, hym, hSB, HY, HLY, HQ, HE, HW⟩ := hrel
    by_cases hkn : k < L.length
    · obtain ⟨hi, ei⟩ := (unhide HT).lt hkn
      have ck := (unhide HE).cell (ints_atA (M := E) (p := k) (by rw [unhide HEL]; exact hkn))
      rw [ei] at ck
      have HPASS := hide fun h => (unhide HLY).pass h
      have HCL := hide fun h y hy hn => (unhide HLY).clash (unhide HP) (unhide HT) hkn h (y := y) hy hn
      have HNX := hide fun h ha => (unhide HLY).next (unhide HP) (unhide HT) hkn h ha
      have HNUM := hide ((unhide HLY).nums (unhide HP) (unhide HT) hk)
      have HAPT := hide (unhide HLY).apt
      have hcs := ((unhide HP).2.2 _ hi).2.1
      generalize eN E k = i at *
      clear ei
      obtain ⟨ao', cap', e', -, -, hcc⟩ := unhide HR wr (unhide HW)
      simp only [Value.slice.injEq] at e'
      obtain ⟨rfl, -, rfl⟩ := e'
      obtain ⟨b, o, x0, x1, x2, x3, x4, rfl, g0, g1, g2, g3, g4, EX⟩ := recCallAt hcc hi
      have ex : ca L i = (x0, x1, x2, x3, x4) := unhide EX
      rw [ex] at hcs HPASS HCL HNX
      obtain ⟨hx1, hx2, hx4⟩ : (1 ≤ x1 ∧ x1 ≤ 1000) ∧ (0 ≤ x2 ∧ x2 < x3 ∧ x3 ≤ 100000000) ∧ (x4 = -1 ∨ (0 ≤ x4 ∧ x4 + x1 ≤ (N : Int))) := hcs
      have hA := Below.alloc1 wr (.cells #[.int .i64 x0, .int .i64 x1, .int .i64 x2, .int .i64 x3, .int .i64 x4] 31)
      have HX := hide (ownV_alloc wr #[.int .i64 x0, .int .i64 x1, .int .i64 x2, .int .i64 x3, .int .i64 x4] 31)
      have HW1 := hide (Below.step (unhide HW) hA)
      have HQ1 := hide ((unhide HQ).step hA)
      have HE1 := hide ((unhide HE).step hA)
      have HY1 := hide ((unhide HY).below hA)
      have hki : (k : Int) < L.length := by omega
      have hii : (i : Int) < L.length := by omega
      have hYl := (unhide HY).len (by decide)
      have hS1 : SB ≤ (wr.alloc (.cells #[.int .i64 x0, .int .i64 x1, .int .i64 x2, .int .i64 x3, .int .i64 x4] 31)).heap.size := by rw [World.size_alloc]; omega
      have HYL := hide hYl
      clear EX ex hA HW HQ HE HY hcc hYl
      by_cases h4 : x4 = -1
      · have d4 : (x4 == -1) = true := by simp [h4]
        replace HPASS := hide (unhide HPASS h4)
        clear hx4 h4 HCL HNX
        go_wp2
        go_roundg (L.length - (k + 1))
        case measure => omega
        case rel => exact ⟨k + 1, ym, yc, yo, Y, by omega, rfl, by go_num, rfl, by omega, hS1, HY1, HPASS, HQ1, HE1, HW1⟩
      · have d4 : (x4 == -1) = false := by simp [h4]
        replace HCL := hide (unhide HCL h4)
        replace HNX := hide (unhide HNX h4)
        obtain ⟨p, rfl⟩ : ∃ p : Nat, x4 = p := ⟨x4.toNat, by omega⟩
        obtain ⟨q, rfl⟩ : ∃ q : Nat, x1 = q := ⟨x1.toNat, by omega⟩
        have hpq : p + q ≤ n := by have := unhide HEN; omega
        have hq1 : 1 ≤ q := by omega
        have QL := hide fun V hV hY => leave_any gq n SB yo ym yc Y x2 V hV hY (by omega) (by have := unhide HYL; omega) hn1 (fun y hy => by have := unhide HNUM y hy; have := unhide HEN; omega) (unhide HAPT)
        clear h4 hx4 HPASS
        obtain ⟨V1, eV⟩ : ∃ V, V = wr.alloc (.cells #[.int .i64 x0, .int .i64 (q : Int), .int .i64 x2, .int .i64 x3, .int .i64 (p : Int)] 31) := ⟨_, rfl⟩
        obtain ⟨gb, egb⟩ : ∃ g, g = wr.heap.size := ⟨_, rfl⟩
        rw [← eV] at HX HW1 HQ1 HE1 HY1 hS1
        have hgb : SB ≤ gb := by omega
        have HEV : Hid (V1 = wr.alloc (.cells #[.int .i64 x0, .int .i64 (q : Int), .int .i64 x2, .int .i64 x3, .int .i64 (p : Int)] 31)) := eV
        rw [← egb] at HX
        have y2 := (unhide HX).cell (i := 2) rfl
        have y4 := (unhide HX).cell (i := 4) rfl
        clear eV
        go_wp2_with fail
        rw [← unhide HEV, ← egb]
        clear HEV egb y2 y4
        refine (unhide QL _ (unhide HQ1) (unhide HY1)).mono ?_
        rintro e w4 ⟨so, ms, cs, rfl, hrow, hms, hq, hk2⟩
        have hqn : ∀ b, SB ≤ b → ¬ qyT gq n b := fun b h1 h2 => by have := h2.2; omega
        have HX2 := hide ((unhide HX).kept hk2 (hqn gb hgb))
        have HE2 := hide ((unhide HE1).kept hk2 (fun h2 => by have := h2.2; omega))
        have HW2 := hide ((unhide HW1).trans (hk2.below (unhide HW1).size fun b hb => by have := hb.1; omega))
        have hS2 : SB ≤ w4.heap.size := Nat.le_trans hS1 hk2.size
        have HY2 := hide (hrow.mono hS1)
        have HQ2 := hide hq
        have hmk : ms ≤ k := by have := unhide HYL; omega
        clear QL hrow hms hq hk2 HX HE1 HW1 HY1 HQ1 hS1 HYL g0 g1 g2 g3 g4 ck
        have HLI := hide (lie_any gq n p q x0 x2 x3 (cvL (stayL Y x2)) w4 (unhide HQ2) hq1 hpq hn1)
        have HCN := hide fun h => free_apt_no (Y := stayL Y x2) (c := (x0, (q : Int), x2, x3, (p : Int))) (p := p) (m := q) rfl rfl h
        have HCY := hide (free_apt (Y := stayL Y x2) (c := (x0, (q : Int), x2, x3, (p : Int))) (p := p) (m := q) rfl rfl).1
        rw [cov_cvL (Y := stayL Y x2) (c := (x0, (q : Int), x2, x3, (p : Int))) (p := p) (m := q) rfl rfl] at HLI
        replace HCL : Hid (∀ y, y ∈ stayL Y x2 → ¬ AptC y (x0, (q : Int), x2, x3, (p : Int)) → clB (N : Int) L = false) := unhide HCL
        replace HNX : Hid ((∀ y ∈ stayL Y x2, AptC y (x0, (q : Int), x2, x3, (p : Int))) → Lyg L E (k + 1) (stayL Y x2 ++ [(x0, (q : Int), x2, x3, (p : Int))])) := unhide HNX
        have y0 := (unhide HX2).cell (i := 0) rfl
        have y1 := (unhide HX2).cell (i := 1) rfl
        have y2 := (unhide HX2).cell (i := 2) rfl
        have y3 := (unhide HX2).cell (i := 3) rfl
        have y4 := (unhide HX2).cell (i := 4) rfl
        unfold vCall at HLI
        cases hf : freeB (cvL (stayL Y x2)) p q with
        | false =>
          have HF : Hid (clB (N : Int) L = false) := by
            obtain ⟨y, hy, hn⟩ := unhide HCN hf
            exact unhide HCL y hy hn
          rw [hf] at HLI
          clear hf
          go_wp2_with fail
          refine (unhide HLI).mono ?_
          rintro e w5 ⟨rfl, -, hk3⟩
          have HW3 := hide ((unhide HW2).trans (hk3.below (unhide HW2).size fun b hb => by have := hb.1; omega))
          clear hk3 HLI y0 y1 y2 y3 y4
          go_wp2
          go_ret
          exact ⟨ret_b17 (unhide HF), unhide HW3⟩
        | true =>
          have HLY2 := hide (unhide HNX (unhide HCY hf))
          rw [hf] at HLI
          clear hf HCN HCY HCL HNX
          go_wp2_with fail
          refine (unhide HLI).mono ?_
          rintro e w5 ⟨rfl, hq, hk3⟩
          have HW3 := hide ((unhide HW2).trans (hk3.below (unhide HW2).size fun b hb => by have := hb.1; omega))
          have HX3 := hide ((unhide HX2).kept hk3 (hqn gb hgb))
          have HE3 := hide ((unhide HE2).kept hk3 (fun h2 => by have := h2.2; omega))
          have HY3 := hide ((unhide HY2).kept hk3 (fun g _ hg _ => hqn g hg))
          have hS3 : SB ≤ w5.heap.size := Nat.le_trans hS2 hk3.size
          have HQ3 := hide hq
          clear hk3 hq HLI y0 y1 y2 y3 y4 HW2 HX2 HE2 HY2 HQ2 hS2
          have y0 := (unhide HX3).cell (i := 0) rfl
          have y1 := (unhide HX3).cell (i := 1) rfl
          have y2 := (unhide HX3).cell (i := 2) rfl
          have y3 := (unhide HX3).cell (i := 3) rfl
          have y4 := (unhide HX3).cell (i := 4) rfl
          have hA2 := Below.alloc1 w5 (.cells #[.int .i64 x0, .int .i64 (q : Int), .int .i64 x2, .int .i64 x3, .int .i64 (p : Int)] 31)
          have HG := hide (ownV_alloc w5 #[.int .i64 x0, .int .i64 (q : Int), .int .i64 x2, .int .i64 x3, .int .i64 (p : Int)] 31)
          replace HW3 := hide (Below.step (unhide HW3) hA2)
          replace HE3 := hide ((unhide HE3).step hA2)
          replace HY3 := hide ((unhide HY3).below hA2)
          replace HQ3 := hide ((unhide HQ3).step hA2)
          have hS4 : SB ≤ (w5.alloc (.cells #[.int .i64 x0, .int .i64 (q : Int), .int .i64 x2, .int .i64 x3, .int .i64 (p : Int)] 31)).heap.size := Nat.le_trans hS3 hA2.size
          clear hA2 HX3
          go_wp2_with (at_builtin; go_must (refine wpList_appRow tyCall _ rfl _ _ rfl SB so ms cs (stayL Y x2) rfl (unhide HY3) hS4 (by omega) w5.heap.size (x0, (q : Int), x2, x3, (p : Int)) 1 rfl (unhide HG) ?_); intro g' cap' w6 hL hK hBg hat; have HL2 := hide hL; have HKK := hide hK; clear hL hK hat)
          go_roundg (L.length - (k + 1))
          case measure => omega
          case rel =>
            have hbk := rowB_blk (unhide HY3) (by decide)
            have hws := (unhide HW3).size
            refine ⟨k + 1, ms + 1, cap', _, _, by omega, rfl, by go_num, rfl, by omega, Nat.le_trans hS4 (unhide HKK).size, HL2, HLY2, (unhide HQ3).kept (unhide HKK) (fun b _ hb hx => by have := hbk b hx; omega), (unhide HE3).kept (unhide HKK) (fun hx => by have := hbk ge hx; omega), (unhide HW3).trans ((unhide HKK).below hws fun b hb => by have := hbk b hb; omega)⟩
    · obtain rfl : k = L.length := by omega
      have HF : Hid (clB (N : Int) L = true) := clB_iff.2 ⟨unhide HP, (unhide HLY).done (unhide HT)⟩
      go_wp2
      go_ret
      exact ⟨ret_b17 (unhide HF), unhide HW⟩

end Go.Proofs.Ytogoknldhimgfaa

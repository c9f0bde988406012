/- The specification's CargoStep, kind 4. Written by wip/mkcgn.py. -/
import Derived.Test.YtfokocpdngokfaaCgN0
namespace Go.Proofs.Ytfokocpdngokfaa
open Go.RowKit

set_option maxRecDepth 100000 in
set_option maxHeartbeats 16000000 in
theorem specStep4_any (ao : Option Addr) (cap : Nat) (L : List CargoTankT) (A : Nat) (b m lean : Int) (w : World) (h : RCargoTank w (.slice ao L.length cap) L) (hn : L.length ≤ 1048576) (hOK : cgOk L 4 (A : Int) b m lean = true) :
    Calls Try.prog 22 #[.slice ao L.length cap, vCargoOp 4 (A : Int) b m, .int .i64 lean] w (StepAns L 4 (A : Int) b m lean w) := by
  have HV := hide h
  obtain ⟨-, -, -, hl, hm, -⟩ := h
  have hOK' := hOK
  unfold cgOk at hOK'
  simp only [Bool.and_eq_true] at hOK'
  obtain ⟨⟨ht, ho⟩, hlb⟩ := hOK'
  have hTk := tksB_iff.1 ht
  have hop := cgOp_parts ho
  have hl1 := hTk.1
  have hl12 := hTk.2.1
  have hAL : A < L.length := by have := hop.an; omega
  have hm1 := hop.m1
  have hm2 := hop.mm
  have hmb := hop.mb
  have QT := hide fun W hW => specTanksOk_any (.slice ao L.length cap) L W ((unhide HV).below hW)
  rw [ht] at QT
  have QO := hide fun W => l13Op_any ao L.length cap 4 (A : Int) b m W hn
  rw [ho] at QO
  have QL := hide fun W => l1In_any lean 0 100000000 W
  rw [hlb] at QL
  have QLL := hide fun W hW => l13Lean_any (.slice ao L.length cap) L W ((unhide HV).below hW) hl12 hTk.mids
  obtain ⟨x0, x1, x2, x3, x4, ex⟩ : ∃ x0 x1 x2 x3 x4, tkA L A = (x0, x1, x2, x3, x4) := ⟨_, _, _, _, _, rfl⟩
  have hgood := hTk.2.2 A hAL
  rw [ex] at hgood
  have hg' := hgood
  unfold tkGood at hg'
  dsimp only at hg'
  obtain ⟨hx0, hx1, hx2, hx3, hx4, hx5, hx6, hx7, hx8, hx9⟩ := hg'
  have EX := hide ex
  have eC := cgC_ok hOK
  have eLL : cgC L 4 (A : Int) b m lean = 0 → cgL L 4 (A : Int) b m lean = _ := fun h => cgL_ok h
  rw [show (A : Int).toNat = A from rfl] at eC eLL
  have hMd := cgN_mids hTk (k := 4) (a := A) (b := 0) (m := m) ⟨hop.k1, hop.k5, hop.a0, hop.an, hop.m1, hop.mm, hop.mb, fun e => absurd e (by decide), fun e => absurd e (by decide), fun e => absurd e (by decide)⟩

  have eN0 : ∀ b', cgN L 4 A b' m = L.set A (inrT (tkA L A) m) := fun b' => rfl
  rw [eN0] at eC eLL hMd
  rw [ex] at eC eLL hMd
  obtain ⟨y0, y1, y2, y3, y4, ey⟩ : ∃ y0 y1 y2 y3 y4, inrT (x0, x1, x2, x3, x4) m = (y0, y1, y2, y3, y4) := ⟨_, _, _, _, _, rfl⟩
  rw [ey] at eC eLL hMd
  have ny : tkA (L.set A (y0, y1, y2, y3, y4)) A = (y0, y1, y2, y3, y4) := by rw [tk_set _ hAL, if_pos rfl]
  have HR : Hid (cgC L 4 (A : Int) b m lean = if decide (y0 < 0) = true then 2 else if decide (y1 < y0) = true then 3 else if burB (y0, y1, y2, y3, y4) = true then 4 else if lean < lnV (L.set A (y0, y1, y2, y3, y4)) ∧ lnV L < lnV (L.set A (y0, y1, y2, y3, y4)) then 5 else 0) := by
    show _ = _
    rw [eC]
    unfold cgR
    rw [show dryB (L.set A (y0, y1, y2, y3, y4)) = decide (y0 < 0) from any_set hTk.noDry hAL _, show ovrB (L.set A (y0, y1, y2, y3, y4)) = decide (y1 < y0) from any_set hTk.noOvr hAL _, ny, show decide ((4 : Int) = 3) = false from rfl, Bool.false_and, Bool.or_false]
  obtain ⟨N, eN⟩ : ∃ N, N = L.set A (y0, y1, y2, y3, y4) := ⟨_, rfl⟩
  rw [← eN] at eLL hMd HR
  have HNL : Hid (N.length = L.length) := by show _ = _; rw [eN, List.length_set]
  have HLL := hide eLL
  have HMD := hide hMd
  have EY := hide ey
  have EN := hide eN
  have hz : ∀ z : CargoTankT, A < (L.set A z).length := fun z => by rw [List.length_set]; exact hAL
  have hzt : ∀ z : CargoTankT, tkA (L.set A z) A = z := fun z => by rw [tk_set _ hAL, if_pos rfl]
  have HZT := hide hzt
  have HZL := hide hz
  clear eC eLL hMd eN0 ny eN hz hzt
  have ey' := ey
  simp only [inrT, thT, Prod.mk.injEq] at ey'
  obtain ⟨q0, q1, q2, q3, q4⟩ := ey'
  have hy0 : 0 ≤ y0 := by omega
  have hy1 : y0 ≤ y1 := by omega
  have HTK := hide hTk
  clear hOK ht ho hlb hTk hop ex
  have HN := hide (rowB_new 33 5 eCargoTank (w.alloc (.cells #[.int .i64 4, .int .i64 (A : Int), .int .i64 b, .int .i64 m] 31)) (w.heap.size + 1) (by simp))
  have HW0 := hide (Below.step (Below.alloc1 w (.cells #[.int .i64 4, .int .i64 (A : Int), .int .i64 b, .int .i64 m] 31)) (Below.alloc1 (w.alloc (.cells #[.int .i64 4, .int .i64 (A : Int), .int .i64 b, .int .i64 m] 31)) (.cells #[] 33)))
  have HO0 := hide ((ownV_alloc w #[.int .i64 4, .int .i64 (A : Int), .int .i64 b, .int .i64 m] 31).step (Below.alloc1 (w.alloc (.cells #[.int .i64 4, .int .i64 (A : Int), .int .i64 b, .int .i64 m] 31)) (.cells #[] 33)))
  have HR0 := hide ((unhide HV).below (unhide HW0))
  have hws0 : w.heap.size + 1 ≤ ((w.alloc (.cells #[.int .i64 4, .int .i64 (A : Int), .int .i64 b, .int .i64 m] 31)).alloc (.cells #[] 33)).heap.size := by simp
  simp only [World.size_alloc] at HN
  unfold vCargoOp at QO ⊢
  go_enter Try.func22, Try.ntmps22
  go_upto_region 2 with (at_builtin; go_must (refine wpList_appAll tyTank _ rfl _ _ rfl (w.heap.size + 1) (some ⟨w.heap.size + 1, 0, none⟩) 0 0 [] rfl (unhide HN) hws0 (by omega) ao L.length cap L rfl (unhide HR0) hn ?_); intro sa sc w1 hL hK; have HSM : Hid (RowB 33 5 eCargoTank (w.heap.size + 1) w1 sa (0 + L.length) sc L) := hL; have HW := hide (onRow_belowC (unhide HW0) (unhide HN) (by omega) (by omega) hK); have HO := hide (keptRow (unhide HN) (by omega) hK (unhide HO0)); clear hL hK)
  clear HN HW0 HO0 HR0 hws0
  obtain ⟨g1, e1⟩ : ∃ z, z = w.heap.size := ⟨_, rfl⟩
  rw [← e1] at HO
  rw [show (Value.pointer (some ⟨w.heap.size, 0, none⟩)) = Value.pointer (some ⟨g1, 0, none⟩) by rw [e1]]
  clear e1
  go_wp2_with fail
  refine (unhide QT _ (unhide HW)).mono ?_
  rintro e w2 ⟨rfl, hb⟩
  replace HW := hide (Below.step (unhide HW) hb)
  replace HO := hide ((unhide HO).step hb)
  replace HSM := hide ((unhide HSM).below hb)
  clear hb QT
  have c0 := (unhide HO).cell (i := 0) rfl
  have c1 := (unhide HO).cell (i := 1) rfl
  have c2 := (unhide HO).cell (i := 2) rfl
  have c3 := (unhide HO).cell (i := 3) rfl
  go_wp2_with fail
  refine (unhide QO _).mono ?_
  rintro e w4 ⟨rfl, hb⟩
  replace HW := hide (Below.step (unhide HW) hb)
  replace HO := hide ((unhide HO).step hb)
  replace HSM := hide ((unhide HSM).below hb)
  clear hb QO c0 c1 c2 c3
  go_wp2_with fail
  refine (unhide QL _).mono ?_
  rintro e w9 ⟨rfl, h9⟩
  have h8 := h9.symm
  subst h8
  clear h9 QL
  have HN := hide (rowB_new 33 5 eCargoTank w4 w4.heap.size (Nat.le_refl _))
  have hba := Below.alloc1 w4 (.cells #[] 33)
  have HW0 := hide (Below.step (unhide HW) hba)
  have HO0 := hide ((unhide HO).step hba)
  have HSM0 := hide ((unhide HSM).below hba)
  have HR0 := hide ((unhide HV).below (unhide HW0))
  have hws0 : w4.heap.size ≤ (w4.alloc (.cells #[] 33)).heap.size := by simp
  have hws1 := (unhide HW).size
  have hgl := (unhide HO).lt
  have hsl : ∀ g, sa = some ⟨g, 0, none⟩ → g < w4.heap.size := fun g e => by
    rcases (unhide HSM).parts (by decide) with ⟨e', _⟩ | ⟨g', e', _, hg', _⟩
    · rw [e] at e'; cases e'
    · rw [e] at e'; simp only [Option.some.injEq, Addr.mk.injEq, and_true] at e'; omega
  have HSL := hide hsl
  clear hba HW HO HSM hsl
  go_upto_region 5 with (at_builtin; go_must (refine wpList_appAll tyTank _ rfl _ _ rfl w4.heap.size (some ⟨w4.heap.size, 0, none⟩) 0 0 [] rfl (unhide HN) hws0 (by omega) ao L.length cap L rfl (unhide HR0) hn ?_); intro oa oc w5 hL hK; have HOUT : Hid (RowB 33 5 eCargoTank w4.heap.size w5 oa (0 + L.length) oc L) := hL; have HW := hide (onRow_belowC (unhide HW0) (unhide HN) hws1 (by omega) hK); have HO := hide (keptRow (unhide HN) hgl hK (unhide HO0)); have HSM := hide ((unhide HSM0).kept hK (fun g e _ _ e' => by have := unhide HSL g e; simp only [Option.some.injEq, Addr.mk.injEq, and_true] at e'; omega)); clear hL hK)
  clear HN HW0 HO0 HSM0 HR0 hws0
  rcases (unhide HOUT).parts (by decide) with ⟨-, h0, -⟩ | ⟨go, rfl, hgo, hgo', hoc, hom, hro⟩
  · exfalso; omega
  have HRO := hide hro
  have c1 := (unhide HO).cell (i := 1) rfl
  clear hro HOUT
  go_upto_region 6 with (fail)
  have hb5 := Below.alloc1 w5 (.cells #[.int .i64 (A : Int)] 3)
  obtain ⟨gn, egn⟩ : ∃ z, z = w5.heap.size := ⟨_, rfl⟩
  have HG : Hid (G5 w (w5.alloc (.cells #[.int .i64 (A : Int)] 3)) g1 go gn [.int .i64 4, .int .i64 (A : Int), .int .i64 b, .int .i64 m] sa (0 + L.length) sc L L [.int .i64 (A : Int)]) := ⟨Below.step (unhide HW) hb5, (unhide HO).step hb5, (unhide HSM).below hb5, (unhide HRO).step hb5, by rw [egn]; exact ownV_alloc w5 #[.int .i64 (A : Int)] 3⟩
  have HA5 : Hid (A5 w g1 go gn sa) := ⟨by omega, by omega, by omega, fun g e => by have := unhide HSL g e; omega⟩
  obtain ⟨w6, e6⟩ : ∃ z, z = w5.alloc (.cells #[.int .i64 (A : Int)] 3) := ⟨_, rfl⟩
  rw [← e6] at HG ⊢
  rw [← egn]
  have hwo : w.heap.size ≤ go := by omega
  have hAO : A < L.length := hAL
  have hAi : (A : Int) < L.length := by omega
  clear hb5 egn e6 HW HO HSM HRO c1 hgo hgo' hgl hws1 HSL
  have c0 := (unhide HG).o.cell (i := 0) rfl
  have c1 := (unhide HG).o.cell (i := 1) rfl
  have c2 := (unhide HG).o.cell (i := 2) rfl
  have c3 := (unhide HG).o.cell (i := 3) rfl
  obtain ⟨ct0, ct1, ct2, ct3, ct4⟩ := (unhide HG).cells hAO (unhide EX)
  have cf0 := (unhide HG).r.frozen (A * 5)
  have cf1 := (unhide HG).r.frozen (A * 5 + 1)
  have cf2 := (unhide HG).r.frozen (A * 5 + 2)
  have cf3 := (unhide HG).r.frozen (A * 5 + 3)
  have cf4 := (unhide HG).r.frozen (A * 5 + 4)
  go_upto_region 7 with (fail)
  have b30 : 0 ≤ x3 * (100 - m) := Int.mul_nonneg hx5 (by have := hmb (by decide); omega)
  have b31 : x3 * (100 - m) ≤ 1000 * 100 := Int.mul_le_mul hx6 (by omega) (by have := hmb (by decide); omega) (by omega)
  have b40 : 0 ≤ x4 * (100 - m) := Int.mul_nonneg hx7 (by have := hmb (by decide); omega)
  have b41 : x4 * (100 - m) ≤ 1000 * 100 := Int.mul_le_mul hx8 (by omega) (by have := hmb (by decide); omega) (by omega)
  obtain ⟨u, eu⟩ : ∃ u, u = x3 * (100 - m) := ⟨_, rfl⟩
  obtain ⟨v, ev⟩ : ∃ v, v = x4 * (100 - m) := ⟨_, rfl⟩
  rw [← eu] at b30 b31 q3
  rw [← ev] at b40 b41 q4
  have hmb' := hmb (by decide)
  have w0 : IntKind.i64.wrap (100 - m) = 100 - m := by rw [IntKind.wrap_i64]; omega
  have w1' : IntKind.i64.wrap (x3 * (100 - m)) = u := by rw [← eu, IntKind.wrap_i64]; omega
  have w2' : IntKind.i64.wrap (x4 * (100 - m)) = v := by rw [← ev, IntKind.wrap_i64]; omega
  obtain ⟨r3, er3⟩ : ∃ r, r = u / 100 := ⟨_, rfl⟩
  obtain ⟨r4, er4⟩ : ∃ r, r = v / 100 := ⟨_, rfl⟩
  have w3 : u.tdiv 100 = r3 := by rw [Int.tdiv_eq_ediv_of_nonneg b30, er3]
  have w4' : v.tdiv 100 = r4 := by rw [Int.tdiv_eq_ediv_of_nonneg b40, er4]
  have w5' : u / 100 = r3 := er3.symm
  have w6' : v / 100 = r4 := er4.symm
  have r30 : 0 ≤ r3 ∧ r3 ≤ 1000 := by omega
  have r40 : 0 ≤ r4 ∧ r4 ≤ 1000 := by omega
  have w7 : IntKind.i64.wrap r3 = r3 := by rw [IntKind.wrap_i64]; omega
  have w8' : IntKind.i64.wrap r4 = r4 := by rw [IntKind.wrap_i64]; omega
  rw [w5'] at q3
  rw [w6'] at q4
  subst q0 q1 q2 q3
  have Q4 := hide q4
  clear eu ev er3 er4 ey q4
  go_cut [] (fun wx => Hid (G5 w wx g1 go gn [.int .i64 4, .int .i64 (A : Int), .int .i64 b, .int .i64 m] sa (0 + L.length) sc L (L.set A (x0, x1, x2, r3, x4)) [.int .i64 (A : Int)]))
  case first =>
    clear HR HLL HMD QLL
    go_region
    all_goals
      go_wp2
      go_meet
      have hp := ((unhide HG).drewN 1).put (unhide HA5) hAO 3 (by omega) (x0, x1, x2, r3, x4) (.int .i64 r3) rfl (fun j' h1 h2 => by
        rw [unhide EX]
        have : j' = 0 ∨ j' = 1 ∨ j' = 2 ∨ j' = 4 := by omega
        rcases this with rfl | rfl | rfl | rfl <;> rfl)
      skip
      first | exact hp | (have hp := ((unhide HG).put (unhide HA5) hAO 3 (by omega) (x0, x1, x2, r3, x4) (.int .i64 r3) rfl (fun j' h1 h2 => by
        rw [unhide EX]
        have : j' = 0 ∨ j' = 1 ∨ j' = 2 ∨ j' = 4 := by omega
        rcases this with rfl | rfl | rfl | rfl <;> rfl)).drewN 1; skip; exact hp)
  case rest =>
  clear HG
  have HG := hcut
  clear hcut
  try clear c0 c1 c2 c3 ct0 ct1 ct2 ct3 ct4 cf0 cf1 cf2 cf3 cf4
  have NZ := hide (unhide HZT (x0, x1, x2, r3, x4))
  have hAO2 := unhide HZL (x0, x1, x2, r3, x4)
  have c0 := (unhide HG).o.cell (i := 0) rfl
  have c1 := (unhide HG).o.cell (i := 1) rfl
  have c2 := (unhide HG).o.cell (i := 2) rfl
  have c3 := (unhide HG).o.cell (i := 3) rfl
  obtain ⟨ct0, ct1, ct2, ct3, ct4⟩ := (unhide HG).cells hAO2 (unhide NZ)
  have cf0 := (unhide HG).r.frozen (A * 5)
  have cf1 := (unhide HG).r.frozen (A * 5 + 1)
  have cf2 := (unhide HG).r.frozen (A * 5 + 2)
  have cf3 := (unhide HG).r.frozen (A * 5 + 3)
  have cf4 := (unhide HG).r.frozen (A * 5 + 4)
  go_upto_region 8 with (fail)
  go_cut [] (fun wx => Hid (G5 w wx g1 go gn [.int .i64 4, .int .i64 (A : Int), .int .i64 b, .int .i64 m] sa (0 + L.length) sc L (L.set A (x0, x1, x2, r3, r4)) [.int .i64 (A : Int)]))
  case first =>
    clear HR HLL HMD QLL
    go_region
    all_goals
      go_wp2
      go_meet
      have hp := ((unhide HG).drewN 1).put (unhide HA5) (unhide HZL _) 4 (by omega) (x0, x1, x2, r3, r4) (.int .i64 r4) rfl (fun j' h1 h2 => by
        rw [unhide NZ]
        have : j' = 0 ∨ j' = 1 ∨ j' = 2 ∨ j' = 3 := by omega
        rcases this with rfl | rfl | rfl | rfl <;> rfl)
      rw [set_set] at hp
      first | exact hp | (have hp := ((unhide HG).put (unhide HA5) (unhide HZL _) 4 (by omega) (x0, x1, x2, r3, r4) (.int .i64 r4) rfl (fun j' h1 h2 => by
        rw [unhide NZ]
        have : j' = 0 ∨ j' = 1 ∨ j' = 2 ∨ j' = 3 := by omega
        rcases this with rfl | rfl | rfl | rfl <;> rfl)).drewN 1; rw [set_set] at hp; exact hp)
  case rest =>
  clear HG
  have HG := hcut
  clear hcut
  try clear c0 c1 c2 c3 ct0 ct1 ct2 ct3 ct4 cf0 cf1 cf2 cf3 cf4
  clear NZ hAO2
  have NZ := hide (unhide HZT (x0, x1, x2, r3, r4))
  have hAO2 := unhide HZL (x0, x1, x2, r3, r4)
  have c0 := (unhide HG).o.cell (i := 0) rfl
  have c1 := (unhide HG).o.cell (i := 1) rfl
  have c2 := (unhide HG).o.cell (i := 2) rfl
  have c3 := (unhide HG).o.cell (i := 3) rfl
  obtain ⟨ct0, ct1, ct2, ct3, ct4⟩ := (unhide HG).cells hAO2 (unhide NZ)
  have cf0 := (unhide HG).r.frozen (A * 5)
  have cf1 := (unhide HG).r.frozen (A * 5 + 1)
  have cf2 := (unhide HG).r.frozen (A * 5 + 2)
  have cf3 := (unhide HG).r.frozen (A * 5 + 3)
  have cf4 := (unhide HG).r.frozen (A * 5 + 4)
  have q4 := unhide Q4
  subst q4
  clear Q4
  go_upto_region 19 with (fail)
  clear c0 c1 c2 c3 ct0 ct1 ct2 ct3 ct4 cf0 cf1 cf2 cf3 cf4
  try clear NZ
  have NZ := hide (unhide HZT (x0, x1, x2, r3, r4))
  have hAO3 := unhide HZL (x0, x1, x2, r3, r4)
  obtain ⟨t0, t1, t2, t3, t4⟩ := (unhide HG).cells hAO3 (unhide NZ)
  have n0 := (unhide HG).n.cell (i := 0) rfl
  have QB := hide fun W => l13Burns_any x0 x1 x2 r3 r4 W
  unfold vCargoTank at QB
  clear HZT HZL
  go_wp2
  refine wp_loop_rounds 2 ?_
  rw [rounds_succ]
  have d1 : decide (x0 < 0) = false := decide_eq_false (by omega)
  rw [d1] at HR
  replace HR := hide ((unhide HR).trans (if_neg (by simp)))
  generalize hbb : burB (x0, x1, x2, r3, r4) = bb at *
  clear hbb
  have d2 : decide (x1 < x0) = false := decide_eq_false (by omega)
  rw [d2] at HR
  replace HR := hide ((unhide HR).trans (if_neg (by simp)))
  go_wp2_with fail
  refine (unhide QB _).mono ?_
  rintro e w8 ⟨rfl, hb⟩
  replace HG := hide ((unhide HG).step (Below.step (Below.alloc1 _ _) hb))
  clear hb QB t0 t1 t2 t3 t4 n0
  cases bb with
  | true =>
    replace HR := hide ((unhide HR).trans (if_pos rfl))
    go_wp2
    rw [rounds_succ]
    go_wp2
    refine bodyPost_ret (v := .tuple #[.slice sa (0 + L.length) sc, .int .i64 4]) (by simp [results, Try.results22, go_sem]) rfl ?_
    exact stepAns_same (unhide HR) (by decide) (unhide HG).below (unhide HG).s
  | false =>
  replace HR := hide ((unhide HR).trans (if_neg (by simp)))
  go_wp2
  rw [rounds_succ]
  rw [← unhide EN] at HG
  have hrd := fun W (hW : Below w8.heap.size w8 W) => OwnV.recsIn (cap := oc) (L := N) (((unhide HG).r).step hW) (by rw [unhide HNL]; omega) hom
  have QN := hide fun W hW => l13Lean_any (.slice (some ⟨go, 0, none⟩) N.length oc) N W (hrd W hW) (by rw [unhide HNL]; exact hl12) (unhide HMD)
  rw [unhide HNL] at QN
  clear hrd
  have HZ := hide (Below.refl w8.heap.size w8)
  generalize lnV N = nN at *
  generalize lnV L = nL at *
  go_wp2_with fail
  refine (unhide QN _ (unhide HZ)).mono ?_
  rintro e u1 ⟨rfl, hb⟩
  replace HZ := hide (Below.step (unhide HZ) hb)
  clear hb
  by_cases h1 : lean < nN
  · have d1 : decide (lean < nN) = true := decide_eq_true h1
    go_wp2_with fail
    refine (unhide QN _ (unhide HZ)).mono ?_
    rintro e u2 ⟨rfl, hb⟩
    replace HZ := hide (Below.step (unhide HZ) hb)
    clear hb
    have HWZ := hide (Below.step (unhide HG).below (unhide HZ))
    go_wp2_with fail
    refine (unhide QLL _ (unhide HWZ)).mono ?_
    rintro e u3 ⟨rfl, hb⟩
    replace HZ := hide (Below.step (unhide HZ) hb)
    clear hb HWZ
    replace HG := hide ((unhide HG).step (unhide HZ))
    by_cases h2 : nL < nN
    · have d2 : decide (nL < nN) = true := decide_eq_true h2
      replace HR := hide ((unhide HR).trans (if_pos ⟨h1, h2⟩))
      clear QN QLL HZ
      go_wp2
      refine bodyPost_ret (v := .tuple #[.slice sa (0 + L.length) sc, .int .i64 5]) (by simp [results, Try.results22, go_sem]) rfl ?_
      exact stepAns_same (unhide HR) (by decide) (unhide HG).below (unhide HG).s
    · have d2 : decide (nL < nN) = false := decide_eq_false h2
      replace HR := hide ((unhide HR).trans (if_neg (fun h => h2 h.2)))
      clear QN QLL HZ
      go_wp2
      refine bodyPost_ret (v := .tuple #[.slice (some ⟨go, 0, none⟩) (0 + L.length) oc, .int .i64 0]) (by simp [results, Try.results22, go_sem]) rfl ?_
      have hfin := stepAns_done (unhide HR) (unhide HLL (unhide HR)) (unhide HG).below hwo (unhide HG).r (by rw [unhide HNL]; omega) hom
      rw [unhide HNL, ← Nat.zero_add L.length] at hfin
      exact hfin
  · have d1 : decide (lean < nN) = false := decide_eq_false h1
    replace HR := hide ((unhide HR).trans (if_neg (fun h => h1 h.1)))
    replace HG := hide ((unhide HG).step (unhide HZ))
    clear QN QLL HZ
    go_wp2
    refine bodyPost_ret (v := .tuple #[.slice (some ⟨go, 0, none⟩) (0 + L.length) oc, .int .i64 0]) (by simp [results, Try.results22, go_sem]) rfl ?_
    have hfin := stepAns_done (unhide HR) (unhide HLL (unhide HR)) (unhide HG).below hwo (unhide HG).r (by rw [unhide HNL]; omega) hom
    rw [unhide HNL, ← Nat.zero_add L.length] at hfin
    exact hfin

end Go.Proofs.Ytfokocpdngokfaa

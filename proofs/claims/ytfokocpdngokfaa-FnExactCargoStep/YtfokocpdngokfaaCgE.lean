/- The program's deeds on twelve tanks: moved, vented. Written by wip/mkcge.py. -/
import Derived.Test.YtfokocpdngokfaaCgC
import Derived.Test.YtfokocpdngokfaaCgD
namespace Go.Proofs.Ytfokocpdngokfaa
open Go.RowKit

set_option maxRecDepth 100000 in
set_option maxHeartbeats 4000000 in
theorem moved_any (M : List CargoTankT) (A B : Nat) (k m : Int) (w : World) (hM : M.length = 12) (hA : A < 12) (hB : B < 12) (hBA : B ≠ A) (hx : tkGood (tkA M A)) (hy : tkMid (tkA M B)) (hm1 : 1 ≤ m) (hm2 : m ≤ 100000) :
    Calls Try.prog 65 #[.agg (arC M), vCargoOp k (A : Int) (B : Int) m] w fun e w' => e = .returned (.agg (arC ((M.set A (outT (tkA M A) m)).set B (inT (tkA M B) m)))) ∧ Below w.heap.size w w' := by
  have HEM := hide fun V => emptied_any M A k (B : Int) m V hM hA hx hm1 hm2
  obtain ⟨M1, eM1⟩ : ∃ z, z = M.set A (outT (tkA M A) m) := ⟨_, rfl⟩
  have hN1 : M1.length = 12 := by rw [eM1, List.length_set]; exact hM
  obtain ⟨x0, x1, x2, x3, x4, ex⟩ : ∃ x0 x1 x2 x3 x4, tkA M B = (x0, x1, x2, x3, x4) := ⟨_, _, _, _, _, rfl⟩
  have ex1 : tkA M1 B = (x0, x1, x2, x3, x4) := by rw [eM1, tk_set _ (by rw [hM]; exact hB), if_neg hBA, ex]
  have EX1 := hide ex1
  have EM3 : Hid ((M.set A (outT (tkA M A) m)).set B (inT (tkA M B) m) = M1.set B (x0 + m, (tkA M1 B).2)) := by show _ = _; rw [eM1, ← eM1, ex1, ex]; rfl
  have hBi : (B : Int) < 12 := by omega
  rw [ex] at hy
  unfold tkMid at hy
  dsimp only at hy
  obtain ⟨hy0, hy1, -⟩ := hy
  clear ex ex1
  rw [← eM1] at HEM
  clear eM1
  obtain ⟨V, g0, g1, g2, eV, e0, e1, e2, hB0, hB2, h10, h20, h01, h02, hT⟩ := boxes3 w hM (.int .i64 k) (.int .i64 (A : Int)) (.int .i64 (B : Int)) (.int .i64 m)
  have HT := hide hT
  have hAi : (A : Int) < 12 := by omega
  unfold vCargoOp at *
  go_enter Try.func65, Try.ntmps65
  go_upto_region 1 with (fail)
  rw [← eV, ← e2, ← e1, ← e0]
  clear eV e2 e1 e0 hT
  have c0 := (unhide HT).o.cell (i := 0) rfl
  have c1 := (unhide HT).o.cell (i := 1) rfl
  have c2 := (unhide HT).o.cell (i := 2) rfl
  have c3 := (unhide HT).o.cell (i := 3) rfl
  go_step
  refine wpList_loadW rfl _ _ rfl ⟨g0, 0, none⟩ rfl _ (unhide HT).a.load ?_
  go_wp2_with fail
  refine (unhide HEM _).mono ?_
  rintro e w1 ⟨rfl, hb⟩
  replace HT := hide ((unhide HT).step hb)
  have hst := (unhide HT).a.store hN1
  have HT2 := hide ((unhide HT).row hB0 h10 h20 hN1)
  clear hb HEM c0 c1 c2 c3
  obtain ⟨w2, e2⟩ : ∃ z, z = w1.setRow g0 (arC M1) := ⟨_, rfl⟩
  rw [← e2] at hst HT2
  clear e2 HT
  go_upto_region 2 with (refine wpList_storeW (by rfl) (.tmp 2) (.tmp 7) 76 (by rfl) ⟨g0, 0, none⟩ (by rfl) _ (by rfl) (by exact hst) ?_)
  clear hst
  dsimp only [Act.put]
  have c0 := (unhide HT2).o.cell (i := 0) rfl
  have c1 := (unhide HT2).o.cell (i := 1) rfl
  have c2 := (unhide HT2).o.cell (i := 2) rfl
  have c3 := (unhide HT2).o.cell (i := 3) rfl
  obtain ⟨t0, t1, t2, t3, t4⟩ := (unhide HT2).a.cells hB (unhide EX1)
  have f0 := (unhide HT2).a.frozen (B * 5)
  have f4 := (unhide HT2).a.frozen (B * 5 + 4)
  go_cut [] (fun wx => Hid (T3 w wx g0 g1 g2 (M1.set B (x0 + m, (tkA M1 B).2)) [.int .i64 k, .int .i64 (A : Int), .int .i64 (B : Int), .int .i64 m]))
  case first =>
    go_region
    all_goals
      go_wp2
      go_meet
      first | exact ((unhide HT2).drewN 1).put0 (i := B) hB0 h10 h20 (x0 + m) | exact (unhide HT2).put0 (i := B) hB0 h10 h20 (x0 + m)
  case rest =>
  have HT1 := hcut
  have hN : (M1.set B (x0 + m, (tkA M1 B).2)).length = 12 := by simp only [List.length_set]; exact hN1
  clear c0 c1 c2 c3 t0 t1 t2 t3 t4 f0 f4 HT2 hcut
  go_upto_region 3 with (fail)
  go_step
  refine wpList_loadW rfl _ _ rfl ⟨g0, 0, none⟩ rfl _ (unhide HT1).a.load ?_
  refine wpList_storeW rfl _ _ _ rfl ⟨g2, 0, none⟩ rfl _ rfl ((unhide HT1).z.store hN) ?_
  have hld := ((unhide HT1).z.row hN).load
  go_wp2
  refine bodyPost_ret (v := .agg (arC (M1.set B (x0 + m, (tkA M1 B).2)))) (results_cell Try.results65 rfl hld) rfl ⟨by rw [unhide EM3], below_setRow' (unhide HT1).below hB2 _⟩

set_option maxRecDepth 100000 in
set_option maxHeartbeats 4000000 in
theorem vented_any (M : List CargoTankT) (A : Nat) (k b m : Int) (w : World) (hM : M.length = 12) (hA : A < 12) (hx : tkGood (tkA M A)) (hm1 : 1 ≤ m) (hm2 : m ≤ 100) :
    Calls Try.prog 67 #[.agg (arC M), vCargoOp k (A : Int) b m] w fun e w' => e = .returned (.agg (arC (M.set A (venT (tkA M A) m)))) ∧ Below w.heap.size w w' := by
  have HEM := hide fun V => inerted_any M A k b m V hM hA hx hm1 hm2
  obtain ⟨M1, eM1⟩ : ∃ z, z = M.set A (inrT (tkA M A) m) := ⟨_, rfl⟩
  have hN1 : M1.length = 12 := by rw [eM1, List.length_set]; exact hM
  obtain ⟨x0, x1, x2, x3, x4, ex⟩ : ∃ x0 x1 x2 x3 x4, inrT (tkA M A) m = (x0, x1, x2, x3, x4) := ⟨_, _, _, _, _, rfl⟩
  have ex1 : tkA M1 A = (x0, x1, x2, x3, x4) := by rw [eM1, tk_set _ (by rw [hM]; exact hA), if_pos rfl, ex]
  have EX1 := hide ex1
  have EM3 : Hid (M.set A (venT (tkA M A) m) = M1.set A (x0, x1, x2, x3, x4 + 10 * m)) := by
    show _ = _
    rw [eM1, set_set]
    congr 1
    have e : (x0, x1, x2, x3, x4) = inrT (tkA M A) m := ex.symm
    simp only [inrT, thT, Prod.mk.injEq] at e
    obtain ⟨r0, r1, r2, r3, r4⟩ := e
    rw [r0, r1, r2, r3, r4]
    rfl
  have hmid := inrT_mid hx hm1 hm2
  rw [ex] at hmid
  unfold tkMid at hmid
  dsimp only at hmid
  obtain ⟨-, -, -, -, -, -, -, -, hy0, hy1⟩ := hmid
  have qw : IntKind.i64.wrap (10 * m) = 10 * m := by rw [IntKind.wrap_i64]; omega
  have qv : IntKind.i64.wrap (x4 + 10 * m) = x4 + 10 * m := by rw [IntKind.wrap_i64]; omega
  clear ex ex1
  rw [← eM1] at HEM
  clear eM1
  obtain ⟨V, g0, g1, g2, eV, e0, e1, e2, hB0, hB2, h10, h20, h01, h02, hT⟩ := boxes3 w hM (.int .i64 k) (.int .i64 (A : Int)) (.int .i64 b) (.int .i64 m)
  have HT := hide hT
  have hAi : (A : Int) < 12 := by omega
  unfold vCargoOp at *
  go_enter Try.func67, Try.ntmps67
  go_upto_region 1 with (fail)
  rw [← eV, ← e2, ← e1, ← e0]
  clear eV e2 e1 e0 hT
  have c0 := (unhide HT).o.cell (i := 0) rfl
  have c1 := (unhide HT).o.cell (i := 1) rfl
  have c2 := (unhide HT).o.cell (i := 2) rfl
  have c3 := (unhide HT).o.cell (i := 3) rfl
  go_step
  refine wpList_loadW rfl _ _ rfl ⟨g0, 0, none⟩ rfl _ (unhide HT).a.load ?_
  go_wp2_with fail
  refine (unhide HEM _).mono ?_
  rintro e w1 ⟨rfl, hb⟩
  replace HT := hide ((unhide HT).step hb)
  have hst := (unhide HT).a.store hN1
  have HT2 := hide ((unhide HT).row hB0 h10 h20 hN1)
  clear hb HEM c0 c1 c2 c3
  obtain ⟨w2, e2⟩ : ∃ z, z = w1.setRow g0 (arC M1) := ⟨_, rfl⟩
  rw [← e2] at hst HT2
  clear e2 HT
  go_upto_region 2 with (refine wpList_storeW (by rfl) (.tmp 2) (.tmp 7) 76 (by rfl) ⟨g0, 0, none⟩ (by rfl) _ (by rfl) (by exact hst) ?_)
  clear hst
  dsimp only [Act.put]
  have c0 := (unhide HT2).o.cell (i := 0) rfl
  have c1 := (unhide HT2).o.cell (i := 1) rfl
  have c2 := (unhide HT2).o.cell (i := 2) rfl
  have c3 := (unhide HT2).o.cell (i := 3) rfl
  obtain ⟨t0, t1, t2, t3, t4⟩ := (unhide HT2).a.cells hA (unhide EX1)
  have f0 := (unhide HT2).a.frozen (A * 5)
  have f4 := (unhide HT2).a.frozen (A * 5 + 4)
  go_cut [] (fun wx => Hid (T3 w wx g0 g1 g2 (M1.set A (x0, x1, x2, x3, x4 + 10 * m)) [.int .i64 k, .int .i64 (A : Int), .int .i64 b, .int .i64 m]))
  case first =>
    go_region
    all_goals
      go_wp2
      go_meet
      first | exact ((unhide HT2).drewN 1).put4 (i := A) hB0 h10 h20 (unhide EX1) (x4 + 10 * m) | exact (unhide HT2).put4 (i := A) hB0 h10 h20 (unhide EX1) (x4 + 10 * m)
  case rest =>
  have HT1 := hcut
  have hN : (M1.set A (x0, x1, x2, x3, x4 + 10 * m)).length = 12 := by simp only [List.length_set]; exact hN1
  clear c0 c1 c2 c3 t0 t1 t2 t3 t4 f0 f4 HT2 hcut
  go_upto_region 3 with (fail)
  go_step
  refine wpList_loadW rfl _ _ rfl ⟨g0, 0, none⟩ rfl _ (unhide HT1).a.load ?_
  refine wpList_storeW rfl _ _ _ rfl ⟨g2, 0, none⟩ rfl _ rfl ((unhide HT1).z.store hN) ?_
  have hld := ((unhide HT1).z.row hN).load
  go_wp2
  refine bodyPost_ret (v := .agg (arC (M1.set A (x0, x1, x2, x3, x4 + 10 * m)))) (results_cell Try.results67 rfl hld) rfl ⟨by rw [unhide EM3], below_setRow' (unhide HT1).below hB2 _⟩

end Go.Proofs.Ytfokocpdngokfaa

/- The program's deeds on twelve tanks: inerted. Written by wip/mkcgb.py. -/
import Derived.Test.YtfokocpdngokfaaCgB
namespace Go.Proofs.Ytfokocpdngokfaa
open Go.RowKit

set_option maxRecDepth 100000 in
set_option maxHeartbeats 4000000 in
theorem inerted_any (M : List CargoTankT) (A : Nat) (k b m : Int) (w : World) (hM : M.length = 12) (hA : A < 12) (hx : tkGood (tkA M A)) (hm1 : 1 ≤ m) (hm2 : m ≤ 100) :
    Calls Try.prog 66 #[.agg (arC M), vCargoOp k (A : Int) b m] w fun e w' => e = .returned (.agg (arC (M.set A (inrT (tkA M A) m)))) ∧ Below w.heap.size w w' := by
  obtain ⟨x0, x1, x2, x3, x4, ex⟩ : ∃ x0 x1 x2 x3 x4, tkA M A = (x0, x1, x2, x3, x4) := ⟨_, _, _, _, _, rfl⟩
  rw [ex] at hx ⊢
  have EX := hide ex
  clear ex
  obtain ⟨V, g0, g1, g2, eV, e0, e1, e2, hB0, hB2, h10, h20, h01, h02, hT⟩ := boxes3 w hM (.int .i64 k) (.int .i64 (A : Int)) (.int .i64 b) (.int .i64 m)
  have HT := hide hT
  have hAi : (A : Int) < 12 := by omega
  unfold vCargoOp
  go_enter Try.func66, Try.ntmps66
  go_upto_region 1 with (fail)
  rw [← eV, ← e2, ← e1, ← e0]
  clear eV e2 e1 e0 hT
  have c0 := (unhide HT).o.cell (i := 0) rfl
  have c1 := (unhide HT).o.cell (i := 1) rfl
  have c2 := (unhide HT).o.cell (i := 2) rfl
  have c3 := (unhide HT).o.cell (i := 3) rfl
  obtain ⟨t0, t1, t2, t3, t4⟩ := (unhide HT).a.cells hA (unhide EX)
  have f0 := (unhide HT).a.frozen (A * 5)
  have f1 := (unhide HT).a.frozen (A * 5 + 1)
  have f2 := (unhide HT).a.frozen (A * 5 + 2)
  have f3 := (unhide HT).a.frozen (A * 5 + 3)
  have f4 := (unhide HT).a.frozen (A * 5 + 4)
  unfold tkGood at hx
  dsimp only at hx
  obtain ⟨hx0, hx1, hx2, -, -, hx3, hx4, hx5, hx6, -⟩ := hx
  have HTH := hide fun V => thinned_any x0 x1 x2 x3 x4 (100 - m) 100 V (by omega) (by omega) (by omega) (by omega) (by omega) (by omega) (by omega) (by omega)
  obtain ⟨y3, ey3⟩ : ∃ z, z = x3 * (100 - m) / 100 := ⟨_, rfl⟩
  obtain ⟨y4, ey4⟩ : ∃ z, z = x4 * (100 - m) / 100 := ⟨_, rfl⟩
  rw [← ey3, ← ey4] at HTH
  have EY3 := hide ey3
  have EY4 := hide ey4
  clear ey3 ey4
  unfold vCargoTank at HTH
  have qw : IntKind.i64.wrap (100 - m) = (100 - m) := by rw [IntKind.wrap_i64]; omega
  go_cut [] (fun wx => Hid (T3 w wx g0 g1 g2 (M.set A (inrT (x0, x1, x2, x3, x4) m)) [.int .i64 k, .int .i64 (A : Int), .int .i64 b, .int .i64 m]))
  case first =>
    have hd : Below V.heap.size V V.drew := (Below.refl _ _).drew
    replace HT := hide ((unhide HT).step hd)
    clear hd c0 c1 c2 c3 t0 t1 t2 t3 t4 f0 f1 f2 f3 f4
    have e0 := (unhide HT).o.cell (i := 0) rfl
    have e1 := (unhide HT).o.cell (i := 1) rfl
    have e2 := (unhide HT).o.cell (i := 2) rfl
    have e3 := (unhide HT).o.cell (i := 3) rfl
    obtain ⟨et0, et1, et2, et3, et4⟩ := (unhide HT).a.cells hA (unhide EX)
    have ef0 := (unhide HT).a.frozen (A * 5)
    have ef1 := (unhide HT).a.frozen (A * 5 + 1)
    have ef2 := (unhide HT).a.frozen (A * 5 + 2)
    have ef3 := (unhide HT).a.frozen (A * 5 + 3)
    have ef4 := (unhide HT).a.frozen (A * 5 + 4)
    go_region_with (go_at_call 74; refine (unhide HTH _).mono ?_; rintro e w1 ⟨rfl, hb⟩; replace HT := hide ((unhide HT).step hb); clear hb HTH e0 e1 e2 e3 et0 et1 et2 et3 et4 ef0 ef1 ef2 ef3 ef4; have d0 := (unhide HT).o.cell (i := 0) rfl; have d1 := (unhide HT).o.cell (i := 1) rfl; have d2 := (unhide HT).o.cell (i := 2) rfl; have d3 := (unhide HT).o.cell (i := 3) rfl; obtain ⟨dt0, dt1, dt2, dt3, dt4⟩ := (unhide HT).a.cells hA (unhide EX); have df0 := (unhide HT).a.frozen (A * 5); have df1 := (unhide HT).a.frozen (A * 5 + 1); have df2 := (unhide HT).a.frozen (A * 5 + 2); have df3 := (unhide HT).a.frozen (A * 5 + 3); have df4 := (unhide HT).a.frozen (A * 5 + 4))
    all_goals
      go_wp2
      go_meet
      have h1 : inrT (x0, x1, x2, x3, x4) m = (x0, x1, x2, y3, y4) := by rw [unhide EY3, unhide EY4]; rfl
      rw [h1]
      first | exact (unhide HT).put5 hA hB0 h10 h20 x0 x1 x2 y3 y4 | exact ((unhide HT).drewN 1).put5 hA hB0 h10 h20 x0 x1 x2 y3 y4
  case rest =>
  have HT1 := hcut
  have hN : (M.set A (inrT (x0, x1, x2, x3, x4) m)).length = 12 := by simp only [List.length_set]; exact hM
  clear HT hcut
  try clear c0 c1 c2 c3 t0 t1 t2 t3 t4 f0 f1 f2 f3 f4
  go_upto_region 2 with (fail)
  go_step
  refine wpList_loadW rfl _ _ rfl ⟨g0, 0, none⟩ rfl _ (unhide HT1).a.load ?_
  refine wpList_storeW rfl _ _ _ rfl ⟨g2, 0, none⟩ rfl _ rfl ((unhide HT1).z.store hN) ?_
  have hld := ((unhide HT1).z.row hN).load
  go_wp2
  refine bodyPost_ret (v := .agg (arC (M.set A (inrT (x0, x1, x2, x3, x4) m)))) (results_cell Try.results66 rfl hld) rfl ⟨rfl, below_setRow' (unhide HT1).below hB2 _⟩

end Go.Proofs.Ytfokocpdngokfaa

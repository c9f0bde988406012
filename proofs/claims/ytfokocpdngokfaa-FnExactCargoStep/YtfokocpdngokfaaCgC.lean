/- The program's deeds on twelve tanks: emptied. Written by wip/mkcgb.py. -/
import Derived.Test.YtfokocpdngokfaaCgB
namespace Go.Proofs.Ytfokocpdngokfaa
open Go.RowKit

set_option maxRecDepth 100000 in
set_option maxHeartbeats 4000000 in
theorem emptied_any (M : List CargoTankT) (A : Nat) (k b m : Int) (w : World) (hM : M.length = 12) (hA : A < 12) (hx : tkGood (tkA M A)) (hm1 : 1 ≤ m) (hm2 : m ≤ 100000) :
    Calls Try.prog 64 #[.agg (arC M), vCargoOp k (A : Int) b m] w fun e w' => e = .returned (.agg (arC (M.set A (outT (tkA M A) m)))) ∧ Below w.heap.size w w' := by
  obtain ⟨x0, x1, x2, x3, x4, ex⟩ : ∃ x0 x1 x2 x3 x4, tkA M A = (x0, x1, x2, x3, x4) := ⟨_, _, _, _, _, rfl⟩
  rw [ex] at hx ⊢
  have EX := hide ex
  clear ex
  obtain ⟨V, g0, g1, g2, eV, e0, e1, e2, hB0, hB2, h10, h20, h01, h02, hT⟩ := boxes3 w hM (.int .i64 k) (.int .i64 (A : Int)) (.int .i64 b) (.int .i64 m)
  have HT := hide hT
  have hAi : (A : Int) < 12 := by omega
  unfold vCargoOp
  go_enter Try.func64, Try.ntmps64
  go_upto_region 1 with (fail)
  rw [← eV, ← e2, ← e1, ← e0]
  clear eV e2 e1 e0 hT
  have c0 := (unhide HT).o.cell (i := 0) rfl
  have c1 := (unhide HT).o.cell (i := 1) rfl
  have c2 := (unhide HT).o.cell (i := 2) rfl
  have c3 := (unhide HT).o.cell (i := 3) rfl
  obtain ⟨t0, t1, t2, t3, t4⟩ := (unhide HT).a.cells hA (unhide EX)
  have f0 := (unhide HT).a.frozen (A * 5)
  have f1 := (unhide HT).a.frozen (A * 5 + 1)
  have f2 := (unhide HT).a.frozen (A * 5 + 2)
  have f3 := (unhide HT).a.frozen (A * 5 + 3)
  have f4 := (unhide HT).a.frozen (A * 5 + 4)
  unfold tkGood at hx
  dsimp only at hx
  obtain ⟨hx0, hx1, hx2, -, -, hx3, hx4, hx5, hx6, -⟩ := hx
  have HTH := hide fun V => thinned_any (x0 - m) x1 x2 x3 x4 (x1 - (x0 - m) - m) (x1 - (x0 - m)) V (by omega) (by omega) (by omega) (by omega) (by omega) (by omega) (by omega) (by omega)
  obtain ⟨y3, ey3⟩ : ∃ z, z = x3 * (x1 - (x0 - m) - m) / (x1 - (x0 - m)) := ⟨_, rfl⟩
  obtain ⟨y4, ey4⟩ : ∃ z, z = x4 * (x1 - (x0 - m) - m) / (x1 - (x0 - m)) := ⟨_, rfl⟩
  rw [← ey3, ← ey4] at HTH
  have EY3 := hide ey3
  have EY4 := hide ey4
  clear ey3 ey4
  unfold vCargoTank at HTH
  have qw : IntKind.i64.wrap (x1 - (x0 - m) - m) = (x1 - (x0 - m) - m) := by rw [IntKind.wrap_i64]; omega
  go_upto_region 2 with (fail)
  obtain ⟨V3, eV3⟩ : ∃ z, z = V.alloc (.cells #[.int .i64 x0, .int .i64 x1, .int .i64 x2, .int .i64 x3, .int .i64 x4] 33) := ⟨_, rfl⟩
  have hb3 := Below.alloc1 V (.cells #[.int .i64 x0, .int .i64 x1, .int .i64 x2, .int .i64 x3, .int .i64 x4] 33)
  have ho3 := ownV_alloc V #[.int .i64 x0, .int .i64 x1, .int .i64 x2, .int .i64 x3, .int .i64 x4] 33
  obtain ⟨g3, e3⟩ : ∃ z, z = V.heap.size := ⟨_, rfl⟩
  have h30 : ¬ g3 = g0 := by have := (unhide HT).a.lt; omega
  have h03 : ¬ g0 = g3 := fun e => h30 e.symm
  have h31 : ¬ g3 = g1 := by have := (unhide HT).o.lt; omega
  have h32 : ¬ g3 = g2 := by have := (unhide HT).z.lt; omega
  have h3w : w.heap.size ≤ g3 := by have := (unhide HT).below.size; omega
  rw [← eV3, ← e3] at ho3
  rw [← eV3] at hb3 ⊢
  rw [← e3]
  replace HT := hide ((unhide HT).step hb3)
  have HO := hide ho3
  clear hb3 ho3 eV3 e3 c0 c1 c2 c3 t0 t1 t2 t3 t4 f0 f1 f2 f3 f4
  have c1 := (unhide HT).o.cell (i := 1) rfl
  have c3 := (unhide HT).o.cell (i := 3) rfl
  have b0 := (unhide HO).cell (i := 0) rfl
  have b1 := (unhide HO).cell (i := 1) rfl
  have b2 := (unhide HO).cell (i := 2) rfl
  have b3 := (unhide HO).cell (i := 3) rfl
  have b4 := (unhide HO).cell (i := 4) rfl
  have fz := (unhide HO).frozen 0
  go_upto_region 4 with (fail)
  have hk4 := (Kept.refl (fun b => b = g3) V3).setCell (p := ⟨g3, 0, none⟩) rfl (.int .i64 (x0 - m))
  have ho4 := (unhide HO).set 0 (.int .i64 (x0 - m)) (by simp)
  obtain ⟨V4, eV4⟩ : ∃ z, z = V3.setCell ⟨g3, 0, none⟩ (.int .i64 (x0 - m)) := ⟨_, rfl⟩
  rw [← eV4] at ho4 hk4 ⊢
  replace HT := hide ((unhide HT).kept hk4 (fun b e => by omega) (fun e => h30 e.symm) (fun e => h31 e.symm) (fun e => h32 e.symm))
  replace HO : Hid (OwnV V4 g3 [.int .i64 (x0 - m), .int .i64 x1, .int .i64 x2, .int .i64 x3, .int .i64 x4]) := ho4
  clear ho4 hk4 eV4 c1 c3 b0 b1 b2 b3 b4 fz
  have c1 := (unhide HT).o.cell (i := 1) rfl
  have c3 := (unhide HT).o.cell (i := 3) rfl
  have b0 := (unhide HO).cell (i := 0) rfl
  have b1 := (unhide HO).cell (i := 1) rfl
  have b2 := (unhide HO).cell (i := 2) rfl
  have b3 := (unhide HO).cell (i := 3) rfl
  have b4 := (unhide HO).cell (i := 4) rfl
  go_cut [] (fun wx => Hid (T3 w wx g0 g1 g2 (M.set A (outT (x0, x1, x2, x3, x4) m)) [.int .i64 k, .int .i64 (A : Int), .int .i64 b, .int .i64 m]))
  case first =>
    have hd : Below V4.heap.size V4 V4.drew := (Below.refl _ _).drew
    replace HT := hide ((unhide HT).step hd)
    replace HO := hide ((unhide HO).step hd)
    clear hd c1 c3 b0 b1 b2 b3 b4
    have c1 := (unhide HT).o.cell (i := 1) rfl
    have c3 := (unhide HT).o.cell (i := 3) rfl
    have b0 := (unhide HO).cell (i := 0) rfl
    have b1 := (unhide HO).cell (i := 1) rfl
    have b2 := (unhide HO).cell (i := 2) rfl
    have b3 := (unhide HO).cell (i := 3) rfl
    have b4 := (unhide HO).cell (i := 4) rfl
    go_region_held3 (fun w' => w'.cell? ⟨g1, 1, none⟩ = some (.int .i64 (A : Int)) ∧ w'.cell? ⟨g1, 3, none⟩ = some (.int .i64 m) ∧ w'.cell? ⟨g3, 0, none⟩ = some (.int .i64 (x0 - m)) ∧ w'.cell? ⟨g3, 1, none⟩ = some (.int .i64 x1) ∧ w'.cell? ⟨g3, 2, none⟩ = some (.int .i64 x2) ∧ w'.cell? ⟨g3, 3, none⟩ = some (.int .i64 x3) ∧ w'.cell? ⟨g3, 4, none⟩ = some (.int .i64 x4)) (go_keep) (first
      | (go_at_call 74; refine (unhide HTH _).mono ?_; rintro e w1 ⟨rfl, hb⟩; replace HT := hide ((unhide HT).step hb); replace HO := hide ((unhide HO).step hb); clear hb HTH c1 c3 b0 b1 b2 b3 b4; have d0 := (unhide HT).o.cell (i := 0) rfl; have d1 := (unhide HT).o.cell (i := 1) rfl; have d2 := (unhide HT).o.cell (i := 2) rfl; have d3 := (unhide HT).o.cell (i := 3) rfl; obtain ⟨dt0, dt1, dt2, dt3, dt4⟩ := (unhide HT).a.cells hA (unhide EX); have df0 := (unhide HT).a.frozen (A * 5); have df1 := (unhide HT).a.frozen (A * 5 + 1); have df2 := (unhide HT).a.frozen (A * 5 + 2); have df3 := (unhide HT).a.frozen (A * 5 + 3); have df4 := (unhide HT).a.frozen (A * 5 + 4); have b0 := (unhide HO).cell (i := 0) rfl; have b1 := (unhide HO).cell (i := 1) rfl; have b2 := (unhide HO).cell (i := 2) rfl; have b3 := (unhide HO).cell (i := 3) rfl; have b4 := (unhide HO).cell (i := 4) rfl))
    all_goals
      go_wp2
      go_meet
      have h1 : outT (x0, x1, x2, x3, x4) m = (x0 - m, x1, x2, y3, y4) := by rw [unhide EY3, unhide EY4]; rfl
      rw [h1]
      first | exact (unhide HT).put5 hA hB0 h10 h20 (x0 - m) x1 x2 y3 y4 | exact ((unhide HT).drewN 1).put5 hA hB0 h10 h20 (x0 - m) x1 x2 y3 y4
  case rest =>
  have HT1 := hcut
  have hN : (M.set A (outT (x0, x1, x2, x3, x4) m)).length = 12 := by simp only [List.length_set]; exact hM
  clear HT hcut
  try clear c0 c1 c2 c3 t0 t1 t2 t3 t4 f0 f1 f2 f3 f4
  go_upto_region 5 with (fail)
  go_step
  refine wpList_loadW rfl _ _ rfl ⟨g0, 0, none⟩ rfl _ (unhide HT1).a.load ?_
  refine wpList_storeW rfl _ _ _ rfl ⟨g2, 0, none⟩ rfl _ rfl ((unhide HT1).z.store hN) ?_
  have hld := ((unhide HT1).z.row hN).load
  go_wp2
  refine bodyPost_ret (v := .agg (arC (M.set A (outT (x0, x1, x2, x3, x4) m)))) (results_cell Try.results64 rfl hld) rfl ⟨rfl, below_setRow' (unhide HT1).below hB2 _⟩

end Go.Proofs.Ytfokocpdngokfaa

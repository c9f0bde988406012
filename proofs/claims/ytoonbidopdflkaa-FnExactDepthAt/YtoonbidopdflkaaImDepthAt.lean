/- The contract of the program's DepthAt. -/
import Derived.Test.YtoonbidopdflkaaImChartOk
import Derived.Test.YtoonbidopdflkaaChD
namespace Go.Proofs.Ytoonbidopdflkaa
open Go.RowKit

set_option maxRecDepth 10000 in
set_option maxHeartbeats 4000000 in
theorem implDepthAt_any (c : Ch) (dao : Option Addr) (dn dc : Nat) (fao : Option Addr) (fn fc : Nat) (x y : Int) (w : World) (hD : IntsIn w (.slice dao dn dc) c.D) (hF : RFeature w (.slice fao fn fc) c.F) :
    Calls Try.prog 18 #[vChart c.wd c.hg (.slice dao dn dc) (.slice fao fn fc) c.ed, .int .i64 x, .int .i64 y] w fun e w' => e = .returned (.tuple #[.int .i64 (depthAt c x y).1, .bool (depthAt c x y).2]) ∧ Below w.heap.size w w' := by
  have A := Below.alloc1 w (.cells #[.int .i64 c.wd, .int .i64 c.hg, .slice dao dn dc, .slice fao fn fc, .int .i64 c.ed] 27)
  have O := ownV_alloc w #[.int .i64 c.wd, .int .i64 c.hg, .slice dao dn dc, .slice fao fn fc, .int .i64 c.ed] 27
  have HC := hide (implChartOk_any c dao dn dc fao fn fc _ (hD.below A) (hF.below A))
  obtain ⟨dao', dc', eD, hdl, hdm, hdc⟩ := hD
  simp only [Value.slice.injEq] at eD
  obtain ⟨rfl, rfl, rfl⟩ := eD
  have HDC := hide hdc
  have HW := hide A
  have HO := hide O
  obtain ⟨R, eR⟩ : ∃ R, R = depthAt c x y := ⟨_, rfl⟩
  rw [← eR]
  have ER := hide eR
  clear A O hF hdc eR
  cases hok : chartB c with
  | false =>
    have EN : Hid (R = (0, false)) := by show _ = _; rw [unhide ER, depthAt, if_neg (by rw [hok]; simp)]
    rw [hok] at HC
    unfold vChart at HC ⊢
    go_enter Try.func18, Try.ntmps18
    go_wp2_with fail
    refine (unhide HC).mono ?_
    rintro e w1 ⟨rfl, hb⟩
    have HW1 := hide (Below.step (unhide HW) hb)
    clear hb HC
    go_wp2
    refine bodyPost_ret (v := .tuple #[.int .i64 0, .bool false]) (by simp [results, Try.results18, go_sem]) rfl ⟨by rw [unhide EN], unhide HW1⟩
  | true =>
    obtain ⟨hw0, hw1, hh0, hh1, hlen, -, -, -⟩ := chartB_head hok
    have HP := hide fun V => isPlace_any c.wd c.hg c.ed x y (.slice dao c.D.length dc) (.slice fao fn fc) V (by omega) (by omega) (by omega) (by omega)
    rw [hok] at HC
    cases hpl : placeB c.wd c.hg x y with
    | false =>
      unfold vChart at HC HP ⊢
      have EN : Hid (R = (0, false)) := by show _ = _; rw [unhide ER, depthAt, if_neg (by rw [hpl]; simp)]
      rw [hpl] at HP
      go_enter Try.func18, Try.ntmps18
      go_wp2_with fail
      refine (unhide HC).mono ?_
      rintro e w1 ⟨rfl, hb⟩
      have HW1 := hide (Below.step (unhide HW) hb)
      have hO := OwnV.step (unhide HO) hb
      have b0 := hO.cell (i := 0) rfl
      have b1 := hO.cell (i := 1) rfl
      have b2 := hO.cell (i := 2) rfl
      have b3 := hO.cell (i := 3) rfl
      have b4 := hO.cell (i := 4) rfl
      clear hb HC hO
      go_wp2_with fail
      refine (unhide HP _).mono ?_
      rintro e w2 ⟨rfl, hb⟩
      replace HW1 := hide (Below.step (unhide HW1) hb)
      clear hb b0 b1 b2 b3 b4 HP
      go_wp2
      refine bodyPost_ret (v := .tuple #[.int .i64 0, .bool false]) (by simp [results, Try.results18, go_sem]) rfl ⟨by rw [unhide EN], unhide HW1⟩
    | true =>
      obtain ⟨hx0, hx1, hy0, hy1⟩ := place_bd hpl
      have hq := place_lt hw0 hw1 hh0 hh1 hx0 hx1 hy0 hy1
      obtain ⟨yw, eyw⟩ : ∃ z, z = y * c.wd := ⟨_, rfl⟩
      rw [← eyw, ← hlen] at hq
      obtain ⟨hq0, hq1, hq2⟩ := hq
      obtain ⟨j, ej⟩ := Int.eq_ofNat_of_zero_le (show 0 ≤ yw + x by omega)
      have EN : Hid (R = (c.D.getD j 0, true)) := by show _ = _; rw [unhide ER, depthAt, if_pos (by rw [hok, hpl]; rfl), ← eyw, ej, Int.toNat_natCast]
      have i1 : IntKind.i64.wrap (y * c.wd) = yw := by rw [← eyw, IntKind.wrap_i64]; omega
      have i2 : IntKind.i64.wrap (yw + x) = (j : Int) := by rw [IntKind.wrap_i64]; omega
      have HPO := hide fun V => placeOf_any c.wd c.hg c.ed x y yw j (.slice dao c.D.length dc) (.slice fao fn fc) V i1 i2
      have hji : (j : Int) < c.D.length := by omega
      obtain ⟨b, o, rfl, hcell⟩ := unhide HDC j (by omega)
      unfold vChart at HC HP HPO ⊢
      rw [hpl] at HP
      clear eyw ej hlen i1 i2
      go_enter Try.func18, Try.ntmps18
      go_wp2_with fail
      refine (unhide HC).mono ?_
      rintro e w1 ⟨rfl, hb⟩
      have HW1 := hide (Below.step (unhide HW) hb)
      have hO := OwnV.step (unhide HO) hb
      have b0 := hO.cell (i := 0) rfl
      have b1 := hO.cell (i := 1) rfl
      have b2 := hO.cell (i := 2) rfl
      have b3 := hO.cell (i := 3) rfl
      have b4 := hO.cell (i := 4) rfl
      have HO1 := hide hO
      clear hb HC hO
      go_wp2_with fail
      refine (unhide HP _).mono ?_
      rintro e w2 ⟨rfl, hb⟩
      replace HW1 := hide (Below.step (unhide HW1) hb)
      clear b0 b1 b2 b3 b4
      have hO := OwnV.step (unhide HO1) hb
      have b0 := hO.cell (i := 0) rfl
      have b1 := hO.cell (i := 1) rfl
      have b2 := hO.cell (i := 2) rfl
      have b3 := hO.cell (i := 3) rfl
      have b4 := hO.cell (i := 4) rfl
      have g0 := ((unhide HW1).cell (lt_of_cell hcell)).trans hcell
      clear hb HP hO hcell
      generalize c.D.getD j 0 = dj at *
      have p0 := fun x' : Gr w2 => gr_cell b0 x'
      have p1 := fun x' : Gr w2 => gr_cell b1 x'
      have p2 := fun x' : Gr w2 => gr_cell b2 x'
      have p3 := fun x' : Gr w2 => gr_cell b3 x'
      have p4 := fun x' : Gr w2 => gr_cell b4 x'
      have p5 := fun x' : Gr w2 => gr_cell g0 x'
      have S1 := hide fun x' : Gr w2 => unhide HPO x'.val
      have gsome := gr_some w2
      clear b0 b1 b2 b3 b4 g0
      go_wp2_with fail
      refine wp_region_grown (by kernel_rfl) (by kernel_rfl) ?_
      repeat (go_big_quiet_step (fail))
      go_big_quiet_want
      go_big_quiet_op
      go_big_quiet_call (exact calls_grown (unhide S1 _))
      repeat (go_big_quiet_step (fail))
      refine wpQuiet_nil ?_
      intro w3 hw3
      obtain ⟨z', hz⟩ := hw3
      have hb1 : Below w2.heap.size w2 w3 := hz ▸ z'.ok
      replace HW1 := hide (Below.step (unhide HW1) hb1)
      clear hz gsome hb1 p0 p1 p2 p3 p4 p5
      go_wp2
      refine bodyPost_ret (v := .tuple #[.int .i64 dj, .bool true]) (by simp [results, Try.results18, go_sem]) rfl ⟨by rw [unhide EN], unhide HW1⟩

end Go.Proofs.Ytoonbidopdflkaa

/- FnDuties, walked: of two drawn ships one keeps just where the other keeps clear; turned a quarter they have the same duties. Written by wip/mkfdu.py. -/
import Derived.Test.YtcljgaofpeaplaaDuM
import Derived.Test.YtcljgaofpeaplaaRrN1
import Derived.Test.YtcljgaofpeaplaaClE
import Derived.Test.YtcljgaofpeaplaaAtBig
namespace Go.Proofs.Ytcljgaofpeaplaa
open Go.RowKit

theorem ship_bd {x y u v k d : Int} (h : shipB x y u v k d = true) : (-100000 ≤ x ∧ x ≤ 100000) ∧ (-100000 ≤ y ∧ y ≤ 100000) ∧ (-1000 ≤ u ∧ u ≤ 1000) ∧ (-1000 ≤ v ∧ v ≤ 1000) ∧ (u != 0 || v != 0) = true ∧ (1 ≤ k ∧ k ≤ 5) := by
  unfold shipB at h
  simp only [Bool.and_eq_true] at h
  obtain ⟨⟨⟨⟨⟨⟨h1, h2⟩, h3⟩, h4⟩, h5⟩, h6⟩, h7⟩ := h
  exact ⟨inB_true h1, inB_true h2, inB_true h3, inB_true h4, h5, inB_true h6⟩
theorem recs_two (ax ay au av ak ad cx cy cu cv ck cd : Int) : recCells 6 eShip [(ax, ay, au, av, ak, ad), (cx, cy, cu, cv, ck, cd)] = [.int .i64 ax, .int .i64 ay, .int .i64 au, .int .i64 av, .int .i64 ak, .int .i64 ad, .int .i64 cx, .int .i64 cy, .int .i64 cu, .int .i64 cv, .int .i64 ck, .int .i64 cd] := by
  first
    | rfl
    | (simp [recCells, List.range_succ, eShip]; done)
theorem tdiv_absD (a b : Int) : (a.tdiv b).natAbs ≤ a.natAbs := by rw [Int.natAbs_tdiv]; exact Nat.div_le_self _ _

set_option maxRecDepth 100000 in
set_option maxHeartbeats 16000000 in
theorem fnDuties_any (v : Value) (nb : Nat) (w : World) (h : BytesIn w.heap.size w v nb) :
    Calls Try.prog 3 #[v] w fun e w' => e = .returned (.bool true) ∧ Below w.heap.size w w' := by
  have HB := hide h
  obtain ⟨vao, vcap, rfl, hvl, hvm, _⟩ := h
  unfold maxLen at hvm
  have Q0 := hide fun W => big_any vao nb vcap W
  by_cases hbig : 1048576 < nb
  · have d0 : decide ((1048576 : Int) < (nb : Int)) = true := by simp; omega
    rw [d0] at Q0
    go_enter Try.func3, Try.ntmps3
    go_wp2_with fail
    refine (unhide Q0 _).mono ?_
    rintro e w' ⟨rfl, rfl⟩
    go_wp2
    go_ret
    exact ⟨rfl, Below.refl _ _⟩
  have d0 : decide ((1048576 : Int) < (nb : Int)) = false := by simp; omega
  rw [d0] at Q0
  have Q1 := hide fun W (hW : BytesIn W.heap.size W (.slice vao nb vcap) nb) => drawRightShips_any (.slice vao nb vcap) nb W hW (by omega)
  go_enter Try.func3, Try.ntmps3
  go_wp2_with fail
  refine (unhide Q0 _).mono ?_
  rintro e w' ⟨rfl, rfl⟩
  go_wp2_with fail
  refine (unhide Q1 _ (unhide HB)).mono ?_
  rintro e WD ⟨ax, ay, au, av, ak, ad, cx, cy, cu, cv, ck, cd, rfl, hsa, hsb, hbw⟩
  obtain ⟨a1, a2, a3, a4, -, -⟩ := ship_bd hsa
  obtain ⟨b1, b2, b3, b4, -, -⟩ := ship_bd hsb
  have HSA := hide hsa
  have HSB := hide hsb
  have HBW := hide hbw
  have HXY := hide (duty_sym hsa hsb)
  have QX := hide fun W => implDuty_any ax ay au av ak ad cx cy cu cv ck cd W
  have QY := hide fun W => implDuty_any cx cy cu cv ck cd ax ay au av ak ad W
  obtain ⟨x, ex⟩ : ∃ x, x = duty ax ay au av ak ad cx cy cu cv ck cd := ⟨_, rfl⟩
  obtain ⟨y, ey⟩ : ∃ y, y = duty cx cy cu cv ck cd ax ay au av ak ad := ⟨_, rfl⟩
  rw [← ex] at QX HXY
  rw [← ey] at QY HXY
  have HEX := hide ex
  have HEY := hide ey
  clear hsa hsb hbw Q0 Q1 d0 hbig hvl hvm HB ex ey
  unfold vShip at QX QY ⊢
  obtain ⟨ga, ega⟩ : ∃ q, q = WD.heap.size := ⟨_, rfl⟩
  obtain ⟨gb, egb⟩ : ∃ q, q = WD.heap.size + 1 := ⟨_, rfl⟩
  have hab : ga < gb := by omega
  have hgaw0 : w.heap.size ≤ ga := by have := (unhide HBW).size; omega
  obtain ⟨V4, eV4⟩ : ∃ Vq, Vq = WD.alloc (.cells #[.int .i64 ax, .int .i64 ay, .int .i64 au, .int .i64 av, .int .i64 ak, .int .i64 ad] 25) := ⟨_, rfl⟩
  have hA4 : Below WD.heap.size WD V4 := by rw [eV4]; exact Below.alloc1 _ _
  have hs4 : V4.heap.size = WD.heap.size + 1 := by rw [eV4, World.size_alloc]
  have HAa : Hid (OwnV V4 ga [.int .i64 ax, .int .i64 ay, .int .i64 au, .int .i64 av, .int .i64 ak, .int .i64 ad]) := by show OwnV _ _ _; rw [eV4, ega]; exact ownV_alloc _ _ _
  obtain ⟨V5, eV5⟩ : ∃ Vq, Vq = V4.alloc (.cells #[.int .i64 cx, .int .i64 cy, .int .i64 cu, .int .i64 cv, .int .i64 ck, .int .i64 cd] 25) := ⟨_, rfl⟩
  have hA5 : Below V4.heap.size V4 V5 := by rw [eV5]; exact Below.alloc1 _ _
  have HBb : Hid (OwnV V5 gb [.int .i64 cx, .int .i64 cy, .int .i64 cu, .int .i64 cv, .int .i64 ck, .int .i64 cd]) := by show OwnV _ _ _; rw [eV5, egb, ← hs4]; exact ownV_alloc _ _ _
  replace HAa := hide ((unhide HAa).step hA5)
  have HW := hide (Below.step (unhide HBW) (Below.step hA4 hA5))
  go_upto_region 4 with (fail)
  rw [← eV4, ← eV5, ← egb, ← ega]
  clear eV4 eV5 ega egb hA4 hA5 hs4
  have r0 := fun x : Gr V5 => gr_cell ((unhide HAa).cell (i := 0) rfl) x
  have s0 := fun x : Gr V5 => gr_cell ((unhide HBb).cell (i := 0) rfl) x
  have r1 := fun x : Gr V5 => gr_cell ((unhide HAa).cell (i := 1) rfl) x
  have s1 := fun x : Gr V5 => gr_cell ((unhide HBb).cell (i := 1) rfl) x
  have r2 := fun x : Gr V5 => gr_cell ((unhide HAa).cell (i := 2) rfl) x
  have s2 := fun x : Gr V5 => gr_cell ((unhide HBb).cell (i := 2) rfl) x
  have r3 := fun x : Gr V5 => gr_cell ((unhide HAa).cell (i := 3) rfl) x
  have s3 := fun x : Gr V5 => gr_cell ((unhide HBb).cell (i := 3) rfl) x
  have r4 := fun x : Gr V5 => gr_cell ((unhide HAa).cell (i := 4) rfl) x
  have s4 := fun x : Gr V5 => gr_cell ((unhide HBb).cell (i := 4) rfl) x
  have r5 := fun x : Gr V5 => gr_cell ((unhide HAa).cell (i := 5) rfl) x
  have s5 := fun x : Gr V5 => gr_cell ((unhide HBb).cell (i := 5) rfl) x
  have gsome := gr_some V5
  refine wp_region_grown (by kernel_rfl) (by kernel_rfl) ?_
  repeat (go_big_quiet_step (fail))
  go_big_quiet_want
  go_big_quiet_op
  go_big_quiet_call (exact calls_grown (unhide QX _))
  repeat (go_big_quiet_step (fail))
  go_big_quiet_want
  go_big_quiet_op
  go_big_quiet_call (exact calls_grown (unhide QY _))
  repeat (go_big_quiet_step (fail))
  refine wpQuiet_nil ?_
  intro w5 hw5
  obtain ⟨z', hz⟩ := hw5
  have hb1 : Below V5.heap.size V5 w5 := hz ▸ z'.ok
  replace HAa := hide ((unhide HAa).step hb1)
  replace HBb := hide ((unhide HBb).step hb1)
  replace HW := hide (Below.step (unhide HW) hb1)
  clear hz hb1 z' gsome r0 r1 r2 r3 r4 r5 s0 s1 s2 s3 s4 s5 QX QY
  generalize hw6 : w5 = w6 at *
  clear hw6
  rcases unhide HXY with ⟨rfl, rfl⟩ | ⟨rfl, rfl⟩ | ⟨rfl, rfl⟩ | ⟨rfl, rfl⟩
  case inl =>
    clear HXY
    go_upto_region 14 with (fail)
    have hwg := (unhide HBb).lt
    have hwz := (unhide HW).size
    go_cut [7, 8] (fun s7 s8 wx => ∃ gc gd : Nat, s7 = .pointer (some ⟨gc, 0, none⟩) ∧ s8 = .pointer (some ⟨gd, 0, none⟩) ∧ gb < gc ∧ gb < gd ∧ gc ≠ gd ∧ Hid (OwnV wx gc [.int .i64 ax, .int .i64 ay, .int .i64 au, .int .i64 av, .int .i64 ak, .int .i64 ad]) ∧ Hid (OwnV wx gd [.int .i64 cx, .int .i64 cy, .int .i64 cu, .int .i64 cv, .int .i64 ck, .int .i64 cd]) ∧ Hid (OwnV wx ga [.int .i64 ax, .int .i64 ay, .int .i64 au, .int .i64 av, .int .i64 ak, .int .i64 ad]) ∧ Hid (OwnV wx gb [.int .i64 cx, .int .i64 cy, .int .i64 cu, .int .i64 cv, .int .i64 ck, .int .i64 cd]) ∧ Hid (Below w.heap.size w wx))
    case first =>
      have p0 := (unhide HAa).cell (i := 0) rfl
      have p1 := (unhide HAa).cell (i := 1) rfl
      have p2 := (unhide HAa).cell (i := 2) rfl
      have p3 := (unhide HAa).cell (i := 3) rfl
      have p4 := (unhide HAa).cell (i := 4) rfl
      have p5 := (unhide HAa).cell (i := 5) rfl
      have q0 := (unhide HBb).cell (i := 0) rfl
      have q1 := (unhide HBb).cell (i := 1) rfl
      have q2 := (unhide HBb).cell (i := 2) rfl
      have q3 := (unhide HBb).cell (i := 3) rfl
      have q4 := (unhide HBb).cell (i := 4) rfl
      have q5 := (unhide HBb).cell (i := 5) rfl
      have P0 : ∀ o1, (w6.alloc o1).cell? ⟨ga, 0, none⟩ = some (.int .i64 ax) := fun o1 => ((unhide HAa).step (Below.alloc1 w6 o1)).cell (i := 0) rfl
      have PP0 : ∀ o1 o2, ((w6.alloc o1).alloc o2).cell? ⟨ga, 0, none⟩ = some (.int .i64 ax) := fun o1 o2 => (((unhide HAa).step (Below.alloc1 w6 o1)).step (Below.alloc1 _ o2)).cell (i := 0) rfl
      have Q0 : ∀ o1, (w6.alloc o1).cell? ⟨gb, 0, none⟩ = some (.int .i64 cx) := fun o1 => ((unhide HBb).step (Below.alloc1 w6 o1)).cell (i := 0) rfl
      have QQ0 : ∀ o1 o2, ((w6.alloc o1).alloc o2).cell? ⟨gb, 0, none⟩ = some (.int .i64 cx) := fun o1 o2 => (((unhide HBb).step (Below.alloc1 w6 o1)).step (Below.alloc1 _ o2)).cell (i := 0) rfl
      have P1 : ∀ o1, (w6.alloc o1).cell? ⟨ga, 1, none⟩ = some (.int .i64 ay) := fun o1 => ((unhide HAa).step (Below.alloc1 w6 o1)).cell (i := 1) rfl
      have PP1 : ∀ o1 o2, ((w6.alloc o1).alloc o2).cell? ⟨ga, 1, none⟩ = some (.int .i64 ay) := fun o1 o2 => (((unhide HAa).step (Below.alloc1 w6 o1)).step (Below.alloc1 _ o2)).cell (i := 1) rfl
      have Q1 : ∀ o1, (w6.alloc o1).cell? ⟨gb, 1, none⟩ = some (.int .i64 cy) := fun o1 => ((unhide HBb).step (Below.alloc1 w6 o1)).cell (i := 1) rfl
      have QQ1 : ∀ o1 o2, ((w6.alloc o1).alloc o2).cell? ⟨gb, 1, none⟩ = some (.int .i64 cy) := fun o1 o2 => (((unhide HBb).step (Below.alloc1 w6 o1)).step (Below.alloc1 _ o2)).cell (i := 1) rfl
      have P2 : ∀ o1, (w6.alloc o1).cell? ⟨ga, 2, none⟩ = some (.int .i64 au) := fun o1 => ((unhide HAa).step (Below.alloc1 w6 o1)).cell (i := 2) rfl
      have PP2 : ∀ o1 o2, ((w6.alloc o1).alloc o2).cell? ⟨ga, 2, none⟩ = some (.int .i64 au) := fun o1 o2 => (((unhide HAa).step (Below.alloc1 w6 o1)).step (Below.alloc1 _ o2)).cell (i := 2) rfl
      have Q2 : ∀ o1, (w6.alloc o1).cell? ⟨gb, 2, none⟩ = some (.int .i64 cu) := fun o1 => ((unhide HBb).step (Below.alloc1 w6 o1)).cell (i := 2) rfl
      have QQ2 : ∀ o1 o2, ((w6.alloc o1).alloc o2).cell? ⟨gb, 2, none⟩ = some (.int .i64 cu) := fun o1 o2 => (((unhide HBb).step (Below.alloc1 w6 o1)).step (Below.alloc1 _ o2)).cell (i := 2) rfl
      have P3 : ∀ o1, (w6.alloc o1).cell? ⟨ga, 3, none⟩ = some (.int .i64 av) := fun o1 => ((unhide HAa).step (Below.alloc1 w6 o1)).cell (i := 3) rfl
      have PP3 : ∀ o1 o2, ((w6.alloc o1).alloc o2).cell? ⟨ga, 3, none⟩ = some (.int .i64 av) := fun o1 o2 => (((unhide HAa).step (Below.alloc1 w6 o1)).step (Below.alloc1 _ o2)).cell (i := 3) rfl
      have Q3 : ∀ o1, (w6.alloc o1).cell? ⟨gb, 3, none⟩ = some (.int .i64 cv) := fun o1 => ((unhide HBb).step (Below.alloc1 w6 o1)).cell (i := 3) rfl
      have QQ3 : ∀ o1 o2, ((w6.alloc o1).alloc o2).cell? ⟨gb, 3, none⟩ = some (.int .i64 cv) := fun o1 o2 => (((unhide HBb).step (Below.alloc1 w6 o1)).step (Below.alloc1 _ o2)).cell (i := 3) rfl
      have P4 : ∀ o1, (w6.alloc o1).cell? ⟨ga, 4, none⟩ = some (.int .i64 ak) := fun o1 => ((unhide HAa).step (Below.alloc1 w6 o1)).cell (i := 4) rfl
      have PP4 : ∀ o1 o2, ((w6.alloc o1).alloc o2).cell? ⟨ga, 4, none⟩ = some (.int .i64 ak) := fun o1 o2 => (((unhide HAa).step (Below.alloc1 w6 o1)).step (Below.alloc1 _ o2)).cell (i := 4) rfl
      have Q4 : ∀ o1, (w6.alloc o1).cell? ⟨gb, 4, none⟩ = some (.int .i64 ck) := fun o1 => ((unhide HBb).step (Below.alloc1 w6 o1)).cell (i := 4) rfl
      have QQ4 : ∀ o1 o2, ((w6.alloc o1).alloc o2).cell? ⟨gb, 4, none⟩ = some (.int .i64 ck) := fun o1 o2 => (((unhide HBb).step (Below.alloc1 w6 o1)).step (Below.alloc1 _ o2)).cell (i := 4) rfl
      have P5 : ∀ o1, (w6.alloc o1).cell? ⟨ga, 5, none⟩ = some (.int .i64 ad) := fun o1 => ((unhide HAa).step (Below.alloc1 w6 o1)).cell (i := 5) rfl
      have PP5 : ∀ o1 o2, ((w6.alloc o1).alloc o2).cell? ⟨ga, 5, none⟩ = some (.int .i64 ad) := fun o1 o2 => (((unhide HAa).step (Below.alloc1 w6 o1)).step (Below.alloc1 _ o2)).cell (i := 5) rfl
      have Q5 : ∀ o1, (w6.alloc o1).cell? ⟨gb, 5, none⟩ = some (.int .i64 cd) := fun o1 => ((unhide HBb).step (Below.alloc1 w6 o1)).cell (i := 5) rfl
      have QQ5 : ∀ o1 o2, ((w6.alloc o1).alloc o2).cell? ⟨gb, 5, none⟩ = some (.int .i64 cd) := fun o1 o2 => (((unhide HBb).step (Below.alloc1 w6 o1)).step (Below.alloc1 _ o2)).cell (i := 5) rfl
      go_region
      all_goals
        go_wp2_with fail
        go_meet
        first
          | exact ⟨w6.heap.size, w6.heap.size + 1, rfl, rfl, by omega, by omega, by omega, ((ownV_alloc w6 _ _).step (Below.alloc1 _ _)).step (Below.refl _ _).drew, (by have h9 := ownV_alloc (w6.alloc (.cells #[.int .i64 ax, .int .i64 ay, .int .i64 au, .int .i64 av, .int .i64 ak, .int .i64 ad] 25)) #[.int .i64 cx, .int .i64 cy, .int .i64 cu, .int .i64 cv, .int .i64 ck, .int .i64 cd] 25; rw [World.size_alloc] at h9; exact h9.step (Below.refl _ _).drew), (((unhide HAa).step (Below.alloc1 w6 _)).step (Below.alloc1 _ _)).step (Below.refl _ _).drew, (((unhide HBb).step (Below.alloc1 w6 _)).step (Below.alloc1 _ _)).step (Below.refl _ _).drew, Below.step (Below.step (Below.step (unhide HW) (Below.alloc1 w6 _)) (Below.alloc1 _ _)) (Below.refl _ _).drew⟩
          | exact ⟨w6.heap.size + 1, w6.heap.size, rfl, rfl, by omega, by omega, by omega, (by have h9 := ownV_alloc (w6.alloc (.cells #[.int .i64 cx, .int .i64 cy, .int .i64 cu, .int .i64 cv, .int .i64 ck, .int .i64 cd] 25)) #[.int .i64 ax, .int .i64 ay, .int .i64 au, .int .i64 av, .int .i64 ak, .int .i64 ad] 25; rw [World.size_alloc] at h9; exact h9.step (Below.refl _ _).drew), ((ownV_alloc w6 _ _).step (Below.alloc1 _ _)).step (Below.refl _ _).drew, (((unhide HAa).step (Below.alloc1 w6 _)).step (Below.alloc1 _ _)).step (Below.refl _ _).drew, (((unhide HBb).step (Below.alloc1 w6 _)).step (Below.alloc1 _ _)).step (Below.refl _ _).drew, Below.step (Below.step (Below.step (unhide HW) (Below.alloc1 w6 _)) (Below.alloc1 _ _)) (Below.refl _ _).drew⟩
    case rest =>
      clear HAa HBb HW hwg hwz
      obtain ⟨gc, gd, rfl, rfl, hc1, hd1, hcd, HCc, HDd, HAa, HBb, HW⟩ := hcut
      have hW0 := (unhide HW).size
      have hgaw : w.heap.size ≤ ga := hgaw0
      obtain ⟨EX, eEX⟩ : ∃ z, z = (-ay).tdiv 2 := ⟨_, rfl⟩
      have bEX : -100000 ≤ EX ∧ EX ≤ 100000 := by have := tdiv_absD (-ay) 2; omega
      have qEX : IntKind.i64.wrap ((-ay).tdiv 2) = EX := by rw [← eEX, IntKind.wrap_i64]; omega
      have rEX : (-ay).tdiv 2 = EX := eEX.symm
      obtain ⟨EY, eEY⟩ : ∃ z, z = ax.tdiv 2 := ⟨_, rfl⟩
      have bEY : -100000 ≤ EY ∧ EY ≤ 100000 := by have := tdiv_absD ax 2; omega
      have qEY : IntKind.i64.wrap (ax.tdiv 2) = EY := by rw [← eEY, IntKind.wrap_i64]; omega
      have rEY : ax.tdiv 2 = EY := eEY.symm
      obtain ⟨m1, em1⟩ : ∃ z, z = cy - ay := ⟨_, rfl⟩
      have bm1 : -200000 ≤ m1 ∧ m1 ≤ 200000 := by omega
      have qm1 : IntKind.i64.wrap (cy - ay) = m1 := by rw [← em1, IntKind.wrap_i64]; omega
      have rm1 : cy - ay = m1 := em1.symm
      obtain ⟨m2, em2⟩ : ∃ z, z = cx - ax := ⟨_, rfl⟩
      have bm2 : -200000 ≤ m2 ∧ m2 ≤ 200000 := by omega
      have qm2 : IntKind.i64.wrap (cx - ax) = m2 := by rw [← em2, IntKind.wrap_i64]; omega
      have rm2 : cx - ax = m2 := em2.symm
      obtain ⟨FX, eFX⟩ : ∃ z, z = EX - m1 := ⟨_, rfl⟩
      have bFX : -300000 ≤ FX ∧ FX ≤ 300000 := by omega
      have qFX : IntKind.i64.wrap (EX - m1) = FX := by rw [← eFX, IntKind.wrap_i64]; omega
      have rFX : EX - m1 = FX := eFX.symm
      obtain ⟨FY, eFY⟩ : ∃ z, z = EY + m2 := ⟨_, rfl⟩
      have bFY : -300000 ≤ FY ∧ FY ≤ 300000 := by omega
      have qFY : IntKind.i64.wrap (EY + m2) = FY := by rw [← eFY, IntKind.wrap_i64]; omega
      have rFY : EY + m2 = FY := eFY.symm
      have HFX : Hid (FX - EX = -(cy - ay)) := by show _ = _; omega
      have HFY : Hid (FY - EY = cx - ax) := by show _ = _; omega
      clear eEX eEY em1 em2 eFX eFY
      go_upto_region 15 with (fail)
      have lHAa1 := (unhide HAa).cell (i := 1) rfl
      have s9 := (unhide HCc).cell (i := 0) rfl
      have sf := (unhide HCc).frozen 0
      obtain ⟨Y0, eWn⟩ : ∃ Wq, Wq = wc.setCell ⟨gc, 0, none⟩ (.int .i64 (EX)) := ⟨_, rfl⟩
      have hkp := kept1 wc gc 0 (.int .i64 (EX))
      rw [← eWn] at hkp
      replace HCc : Hid (OwnV Y0 gc [.int .i64 (EX), .int .i64 ay, .int .i64 au, .int .i64 av, .int .i64 ak, .int .i64 ad]) := by show OwnV _ _ _; rw [eWn]; exact (unhide HCc).set 0 _ (by simp)
      replace HAa := hide ((unhide HAa).kept hkp (fun e => by have e : ga = gc := e; omega))
      replace HBb := hide ((unhide HBb).kept hkp (fun e => by have e : gb = gc := e; omega))
      replace HDd := hide ((unhide HDd).kept hkp (fun e => by have e : gd = gc := e; omega))
      have hwb := (unhide HW).size
      replace HW := hide ((unhide HW).trans (hkp.below hwb fun b e => by have e : b = gc := e; omega))
      go_upto_region 16 with (fail)
      rw [← eWn]
      clear eWn hkp hwb s9 sf lHAa1
      have lHAa0 := (unhide HAa).cell (i := 0) rfl
      have s9 := (unhide HCc).cell (i := 1) rfl
      have sf := (unhide HCc).frozen 1
      obtain ⟨Y1, eWn⟩ : ∃ Wq, Wq = Y0.setCell ⟨gc, 1, none⟩ (.int .i64 (EY)) := ⟨_, rfl⟩
      have hkp := kept1 Y0 gc 1 (.int .i64 (EY))
      rw [← eWn] at hkp
      replace HCc : Hid (OwnV Y1 gc [.int .i64 (EX), .int .i64 (EY), .int .i64 au, .int .i64 av, .int .i64 ak, .int .i64 ad]) := by show OwnV _ _ _; rw [eWn]; exact (unhide HCc).set 1 _ (by simp)
      replace HAa := hide ((unhide HAa).kept hkp (fun e => by have e : ga = gc := e; omega))
      replace HBb := hide ((unhide HBb).kept hkp (fun e => by have e : gb = gc := e; omega))
      replace HDd := hide ((unhide HDd).kept hkp (fun e => by have e : gd = gc := e; omega))
      have hwb := (unhide HW).size
      replace HW := hide ((unhide HW).trans (hkp.below hwb fun b e => by have e : b = gc := e; omega))
      go_upto_region 17 with (fail)
      rw [← eWn]
      clear eWn hkp hwb s9 sf lHAa0
      have lHCc0 := (unhide HCc).cell (i := 0) rfl
      have lHBb1 := (unhide HBb).cell (i := 1) rfl
      have lHAa1 := (unhide HAa).cell (i := 1) rfl
      have s9 := (unhide HDd).cell (i := 0) rfl
      have sf := (unhide HDd).frozen 0
      obtain ⟨Y2, eWn⟩ : ∃ Wq, Wq = Y1.setCell ⟨gd, 0, none⟩ (.int .i64 (FX)) := ⟨_, rfl⟩
      have hkp := kept1 Y1 gd 0 (.int .i64 (FX))
      rw [← eWn] at hkp
      replace HDd : Hid (OwnV Y2 gd [.int .i64 (FX), .int .i64 cy, .int .i64 cu, .int .i64 cv, .int .i64 ck, .int .i64 cd]) := by show OwnV _ _ _; rw [eWn]; exact (unhide HDd).set 0 _ (by simp)
      replace HAa := hide ((unhide HAa).kept hkp (fun e => by have e : ga = gd := e; omega))
      replace HBb := hide ((unhide HBb).kept hkp (fun e => by have e : gb = gd := e; omega))
      replace HCc := hide ((unhide HCc).kept hkp (fun e => by have e : gc = gd := e; omega))
      have hwb := (unhide HW).size
      replace HW := hide ((unhide HW).trans (hkp.below hwb fun b e => by have e : b = gd := e; omega))
      go_upto_region 18 with (fail)
      rw [← eWn]
      clear eWn hkp hwb s9 sf lHCc0 lHBb1 lHAa1
      have lHCc1 := (unhide HCc).cell (i := 1) rfl
      have lHBb0 := (unhide HBb).cell (i := 0) rfl
      have lHAa0 := (unhide HAa).cell (i := 0) rfl
      have s9 := (unhide HDd).cell (i := 1) rfl
      have sf := (unhide HDd).frozen 1
      obtain ⟨Y3, eWn⟩ : ∃ Wq, Wq = Y2.setCell ⟨gd, 1, none⟩ (.int .i64 (FY)) := ⟨_, rfl⟩
      have hkp := kept1 Y2 gd 1 (.int .i64 (FY))
      rw [← eWn] at hkp
      replace HDd : Hid (OwnV Y3 gd [.int .i64 (FX), .int .i64 (FY), .int .i64 cu, .int .i64 cv, .int .i64 ck, .int .i64 cd]) := by show OwnV _ _ _; rw [eWn]; exact (unhide HDd).set 1 _ (by simp)
      replace HAa := hide ((unhide HAa).kept hkp (fun e => by have e : ga = gd := e; omega))
      replace HBb := hide ((unhide HBb).kept hkp (fun e => by have e : gb = gd := e; omega))
      replace HCc := hide ((unhide HCc).kept hkp (fun e => by have e : gc = gd := e; omega))
      have hwb := (unhide HW).size
      replace HW := hide ((unhide HW).trans (hkp.below hwb fun b e => by have e : b = gd := e; omega))
      go_upto_region 19 with (fail)
      rw [← eWn]
      clear eWn hkp hwb s9 sf lHCc1 lHBb0 lHAa0
      have lHAa3 := (unhide HAa).cell (i := 3) rfl
      have s9 := (unhide HCc).cell (i := 2) rfl
      have sf := (unhide HCc).frozen 2
      obtain ⟨Y4, eWn⟩ : ∃ Wq, Wq = Y3.setCell ⟨gc, 2, none⟩ (.int .i64 (-av)) := ⟨_, rfl⟩
      have hkp := kept1 Y3 gc 2 (.int .i64 (-av))
      rw [← eWn] at hkp
      replace HCc : Hid (OwnV Y4 gc [.int .i64 (EX), .int .i64 (EY), .int .i64 (-av), .int .i64 av, .int .i64 ak, .int .i64 ad]) := by show OwnV _ _ _; rw [eWn]; exact (unhide HCc).set 2 _ (by simp)
      replace HAa := hide ((unhide HAa).kept hkp (fun e => by have e : ga = gc := e; omega))
      replace HBb := hide ((unhide HBb).kept hkp (fun e => by have e : gb = gc := e; omega))
      replace HDd := hide ((unhide HDd).kept hkp (fun e => by have e : gd = gc := e; omega))
      have hwb := (unhide HW).size
      replace HW := hide ((unhide HW).trans (hkp.below hwb fun b e => by have e : b = gc := e; omega))
      go_upto_region 20 with (fail)
      rw [← eWn]
      clear eWn hkp hwb s9 sf lHAa3
      have lHAa2 := (unhide HAa).cell (i := 2) rfl
      have s9 := (unhide HCc).cell (i := 3) rfl
      have sf := (unhide HCc).frozen 3
      obtain ⟨Y5, eWn⟩ : ∃ Wq, Wq = Y4.setCell ⟨gc, 3, none⟩ (.int .i64 (au)) := ⟨_, rfl⟩
      have hkp := kept1 Y4 gc 3 (.int .i64 (au))
      rw [← eWn] at hkp
      replace HCc : Hid (OwnV Y5 gc [.int .i64 (EX), .int .i64 (EY), .int .i64 (-av), .int .i64 (au), .int .i64 ak, .int .i64 ad]) := by show OwnV _ _ _; rw [eWn]; exact (unhide HCc).set 3 _ (by simp)
      replace HAa := hide ((unhide HAa).kept hkp (fun e => by have e : ga = gc := e; omega))
      replace HBb := hide ((unhide HBb).kept hkp (fun e => by have e : gb = gc := e; omega))
      replace HDd := hide ((unhide HDd).kept hkp (fun e => by have e : gd = gc := e; omega))
      have hwb := (unhide HW).size
      replace HW := hide ((unhide HW).trans (hkp.below hwb fun b e => by have e : b = gc := e; omega))
      go_upto_region 21 with (fail)
      rw [← eWn]
      clear eWn hkp hwb s9 sf lHAa2
      have lHBb3 := (unhide HBb).cell (i := 3) rfl
      have s9 := (unhide HDd).cell (i := 2) rfl
      have sf := (unhide HDd).frozen 2
      obtain ⟨Y6, eWn⟩ : ∃ Wq, Wq = Y5.setCell ⟨gd, 2, none⟩ (.int .i64 (-cv)) := ⟨_, rfl⟩
      have hkp := kept1 Y5 gd 2 (.int .i64 (-cv))
      rw [← eWn] at hkp
      replace HDd : Hid (OwnV Y6 gd [.int .i64 (FX), .int .i64 (FY), .int .i64 (-cv), .int .i64 cv, .int .i64 ck, .int .i64 cd]) := by show OwnV _ _ _; rw [eWn]; exact (unhide HDd).set 2 _ (by simp)
      replace HAa := hide ((unhide HAa).kept hkp (fun e => by have e : ga = gd := e; omega))
      replace HBb := hide ((unhide HBb).kept hkp (fun e => by have e : gb = gd := e; omega))
      replace HCc := hide ((unhide HCc).kept hkp (fun e => by have e : gc = gd := e; omega))
      have hwb := (unhide HW).size
      replace HW := hide ((unhide HW).trans (hkp.below hwb fun b e => by have e : b = gd := e; omega))
      go_upto_region 22 with (fail)
      rw [← eWn]
      clear eWn hkp hwb s9 sf lHBb3
      have lHBb2 := (unhide HBb).cell (i := 2) rfl
      have s9 := (unhide HDd).cell (i := 3) rfl
      have sf := (unhide HDd).frozen 3
      obtain ⟨Y7, eWn⟩ : ∃ Wq, Wq = Y6.setCell ⟨gd, 3, none⟩ (.int .i64 (cu)) := ⟨_, rfl⟩
      have hkp := kept1 Y6 gd 3 (.int .i64 (cu))
      rw [← eWn] at hkp
      replace HDd : Hid (OwnV Y7 gd [.int .i64 (FX), .int .i64 (FY), .int .i64 (-cv), .int .i64 (cu), .int .i64 ck, .int .i64 cd]) := by show OwnV _ _ _; rw [eWn]; exact (unhide HDd).set 3 _ (by simp)
      replace HAa := hide ((unhide HAa).kept hkp (fun e => by have e : ga = gd := e; omega))
      replace HBb := hide ((unhide HBb).kept hkp (fun e => by have e : gb = gd := e; omega))
      replace HCc := hide ((unhide HCc).kept hkp (fun e => by have e : gc = gd := e; omega))
      have hwb := (unhide HW).size
      replace HW := hide ((unhide HW).trans (hkp.below hwb fun b e => by have e : b = gd := e; omega))
      go_upto_region 23 with (fail)
      rw [← eWn]
      clear eWn hkp hwb s9 sf lHBb2
      clear qEX qEY qm1 qm2 qFX qFY rEX rEY rm1 rm2 rFX rFY
      have SC := hide fun W => specShipOk_any (EX) (EY) (-av) (au) (ak) (ad) W
      have SD := hide fun W => specShipOk_any (FX) (FY) (-cv) (cu) (ck) (cd) W
      have IA := hide fun W => implShipOk_any ax ay au av ak ad W
      have IB := hide fun W => implShipOk_any cx cy cu cv ck cd W
      rw [unhide HSA] at IA
      rw [unhide HSB] at IB
      unfold vShip at SC SD IA IB
      have c0 := (unhide HCc).cell (i := 0) rfl
      have c1 := (unhide HCc).cell (i := 1) rfl
      have c2 := (unhide HCc).cell (i := 2) rfl
      have c3 := (unhide HCc).cell (i := 3) rfl
      have c4 := (unhide HCc).cell (i := 4) rfl
      have c5 := (unhide HCc).cell (i := 5) rfl
      cases hsc : shipB (EX) (EY) (-av) (au) (ak) (ad) with
      | false =>
        rw [hsc] at SC
        go_wp2_with fail
        refine (unhide SC _).mono ?_
        rintro e X1 ⟨rfl, hb⟩
        replace HAa := hide ((unhide HAa).step hb)
        replace HBb := hide ((unhide HBb).step hb)
        replace HW := hide (Below.step (unhide HW) hb)
        clear hb
        clear c0 c1 c2 c3 c4 c5
        have p0 := (unhide HAa).cell (i := 0) rfl
        have p1 := (unhide HAa).cell (i := 1) rfl
        have p2 := (unhide HAa).cell (i := 2) rfl
        have p3 := (unhide HAa).cell (i := 3) rfl
        have p4 := (unhide HAa).cell (i := 4) rfl
        have p5 := (unhide HAa).cell (i := 5) rfl
        go_upto_region 24 with (fail)
        go_wp2_with fail
        refine (unhide IA _).mono ?_
        rintro e Z1 ⟨rfl, hb⟩
        replace HBb := hide ((unhide HBb).step hb)
        replace HW := hide (Below.step (unhide HW) hb)
        clear hb
        clear p0 p1 p2 p3 p4 p5
        have q0 := (unhide HBb).cell (i := 0) rfl
        have q1 := (unhide HBb).cell (i := 1) rfl
        have q2 := (unhide HBb).cell (i := 2) rfl
        have q3 := (unhide HBb).cell (i := 3) rfl
        have q4 := (unhide HBb).cell (i := 4) rfl
        have q5 := (unhide HBb).cell (i := 5) rfl
        go_wp2_with fail
        refine (unhide IB _).mono ?_
        rintro e Z2 ⟨rfl, hb⟩
        replace HW := hide (Below.step (unhide HW) hb)
        clear hb
        clear q0 q1 q2 q3 q4 q5
        go_wp2
        go_ret
        exact ⟨ret_bool (by simp), unhide HW⟩
      | true =>
        rw [hsc] at SC
        go_wp2_with fail
        refine (unhide SC _).mono ?_
        rintro e X1 ⟨rfl, hb⟩
        replace HAa := hide ((unhide HAa).step hb)
        replace HBb := hide ((unhide HBb).step hb)
        replace HCc := hide ((unhide HCc).step hb)
        replace HDd := hide ((unhide HDd).step hb)
        replace HW := hide (Below.step (unhide HW) hb)
        clear hb
        clear c0 c1 c2 c3 c4 c5
        have d0 := (unhide HDd).cell (i := 0) rfl
        have d1 := (unhide HDd).cell (i := 1) rfl
        have d2 := (unhide HDd).cell (i := 2) rfl
        have d3 := (unhide HDd).cell (i := 3) rfl
        have d4 := (unhide HDd).cell (i := 4) rfl
        have d5 := (unhide HDd).cell (i := 5) rfl
        cases hsd : shipB (FX) (FY) (-cv) (cu) (ck) (cd) with
        | false =>
          rw [hsd] at SD
          go_wp2_with fail
          refine (unhide SD _).mono ?_
          rintro e X2 ⟨rfl, hb⟩
          replace HAa := hide ((unhide HAa).step hb)
          replace HBb := hide ((unhide HBb).step hb)
          replace HW := hide (Below.step (unhide HW) hb)
          clear hb
          clear d0 d1 d2 d3 d4 d5
          have p0 := (unhide HAa).cell (i := 0) rfl
          have p1 := (unhide HAa).cell (i := 1) rfl
          have p2 := (unhide HAa).cell (i := 2) rfl
          have p3 := (unhide HAa).cell (i := 3) rfl
          have p4 := (unhide HAa).cell (i := 4) rfl
          have p5 := (unhide HAa).cell (i := 5) rfl
          go_upto_region 24 with (fail)
          go_wp2_with fail
          refine (unhide IA _).mono ?_
          rintro e Z1 ⟨rfl, hb⟩
          replace HBb := hide ((unhide HBb).step hb)
          replace HW := hide (Below.step (unhide HW) hb)
          clear hb
          clear p0 p1 p2 p3 p4 p5
          have q0 := (unhide HBb).cell (i := 0) rfl
          have q1 := (unhide HBb).cell (i := 1) rfl
          have q2 := (unhide HBb).cell (i := 2) rfl
          have q3 := (unhide HBb).cell (i := 3) rfl
          have q4 := (unhide HBb).cell (i := 4) rfl
          have q5 := (unhide HBb).cell (i := 5) rfl
          go_wp2_with fail
          refine (unhide IB _).mono ?_
          rintro e Z2 ⟨rfl, hb⟩
          replace HW := hide (Below.step (unhide HW) hb)
          clear hb
          clear q0 q1 q2 q3 q4 q5
          go_wp2
          go_ret
          exact ⟨ret_bool (by simp), unhide HW⟩
        | true =>
          rw [hsd] at SD
          go_wp2_with fail
          refine (unhide SD _).mono ?_
          rintro e X2 ⟨rfl, hb⟩
          replace HAa := hide ((unhide HAa).step hb)
          replace HBb := hide ((unhide HBb).step hb)
          replace HCc := hide ((unhide HCc).step hb)
          replace HDd := hide ((unhide HDd).step hb)
          replace HW := hide (Below.step (unhide HW) hb)
          clear hb
          clear d0 d1 d2 d3 d4 d5
          have QT := hide fun W => implDuty_any (EX) (EY) (-av) (au) (ak) (ad) (FX) (FY) (-cv) (cu) (ck) (cd) W
          have QU := hide fun W => implDuty_any (FX) (FY) (-cv) (cu) (ck) (cd) (EX) (EY) (-av) (au) (ak) (ad) W
          rw [duty_turn (unhide HSA) (unhide HSB) hsc hsd (unhide HFX) (unhide HFY), ← unhide HEX] at QT
          rw [duty_turn (unhide HSB) (unhide HSA) hsd hsc (by have := unhide HFX; omega) (by have := unhide HFY; omega), ← unhide HEY] at QU
          unfold vShip at QT QU
          have hsh : shipsB [(ax, ay, au, av, ak, ad), (cx, cy, cu, cv, ck, cd)] = true := by unfold shipsB; simp [okT, unhide HSA, unhide HSB]
          have hrows : dutiesR [(ax, ay, au, av, ak, ad), (cx, cy, cu, cv, ck, cd)] = [[0, 1], [2, 0]] := by unfold dutiesR; rw [hsh]; show dutRows [(ax, ay, au, av, ak, ad), (cx, cy, cu, cv, ck, cd)] = _; rw [show dutRows [(ax, ay, au, av, ak, ad), (cx, cy, cu, cv, ck, cd)] = [[0, duty ax ay au av ak ad cx cy cu cv ck cd], [duty cx cy cu cv ck cd ax ay au av ak ad, 0]] from rfl, ← unhide HEX, ← unhide HEY]
          clear hsc hsd
          have p0 := (unhide HAa).cell (i := 0) rfl
          have p1 := (unhide HAa).cell (i := 1) rfl
          have p2 := (unhide HAa).cell (i := 2) rfl
          have p3 := (unhide HAa).cell (i := 3) rfl
          have p4 := (unhide HAa).cell (i := 4) rfl
          have p5 := (unhide HAa).cell (i := 5) rfl
          have q0 := (unhide HBb).cell (i := 0) rfl
          have q1 := (unhide HBb).cell (i := 1) rfl
          have q2 := (unhide HBb).cell (i := 2) rfl
          have q3 := (unhide HBb).cell (i := 3) rfl
          have q4 := (unhide HBb).cell (i := 4) rfl
          have q5 := (unhide HBb).cell (i := 5) rfl
          have hb := Below.alloc1 X2 (.cells #[.int .i64 ax, .int .i64 ay, .int .i64 au, .int .i64 av, .int .i64 ak, .int .i64 ad, .int .i64 cx, .int .i64 cy, .int .i64 cu, .int .i64 cv, .int .i64 ck, .int .i64 cd] 25)
          have HO : OwnV (X2.alloc (.cells #[.int .i64 ax, .int .i64 ay, .int .i64 au, .int .i64 av, .int .i64 ak, .int .i64 ad, .int .i64 cx, .int .i64 cy, .int .i64 cu, .int .i64 cv, .int .i64 ck, .int .i64 cd] 25)) X2.heap.size (recCells 6 eShip [(ax, ay, au, av, ak, ad), (cx, cy, cu, cv, ck, cd)]) := by rw [recs_two]; exact ownV_alloc X2 _ _
          have QL := hide (implDuties_any _ [(ax, ay, au, av, ak, ad), (cx, cy, cu, cv, ck, cd)] _ (OwnV.recsIn (cap := 2) HO (Nat.le_refl _) (by unfold maxLen; omega)))
          rw [hsh, hrows] at QL
          replace HCc := hide ((unhide HCc).step hb)
          replace HDd := hide ((unhide HDd).step hb)
          replace HW := hide (Below.step (unhide HW) hb)
          clear hb
          clear HO hsh hrows
          go_wp2_with fail
          refine (unhide QL).mono ?_
          rintro e X3 ⟨ra, rn, rc, rfl, hrr, hb⟩
          replace HCc := hide ((unhide HCc).step hb)
          replace HDd := hide ((unhide HDd).step hb)
          replace HW := hide (Below.step (unhide HW) hb)
          clear hb
          clear p0 p1 p2 p3 p4 p5
          clear q0 q1 q2 q3 q4 q5
          clear QL
          rcases hrr with ⟨e9, _⟩ | ⟨g9, G9, C9, c9, e9, hl9, hm9, ho9⟩
          · cases e9
          simp only [Value.slice.injEq] at e9
          obtain ⟨rfl, rfl, rfl⟩ := e9
          unfold maxLen at hm9
          simp only [List.length_cons, List.length_nil] at hl9
          have HT0 := hide ((ho9.top).cell (tops_get G9 C9 [[0, 1], [2, 0]] (r := 0) (by simp)))
          have HT1 := hide ((ho9.top).cell (tops_get G9 C9 [[0, 1], [2, 0]] (r := 1) (by simp)))
          have HR0 : Hid (OwnV X3 (G9 0) [.int .i64 0, .int .i64 1]) := ho9.rows 0 (by simp)
          have HR1 : Hid (OwnV X3 (G9 1) [.int .i64 2, .int .i64 0]) := ho9.rows 1 (by simp)
          have HLT : Hid (g9 < X3.heap.size) := (ho9.top).lt
          have hc0 := (ho9.caps 0 (by simp)).1
          have hc1' := (ho9.caps 1 (by simp)).1
          clear ho9
          have c0 := (unhide HCc).cell (i := 0) rfl
          have c1 := (unhide HCc).cell (i := 1) rfl
          have c2 := (unhide HCc).cell (i := 2) rfl
          have c3 := (unhide HCc).cell (i := 3) rfl
          have c4 := (unhide HCc).cell (i := 4) rfl
          have c5 := (unhide HCc).cell (i := 5) rfl
          have d0 := (unhide HDd).cell (i := 0) rfl
          have d1 := (unhide HDd).cell (i := 1) rfl
          have d2 := (unhide HDd).cell (i := 2) rfl
          have d3 := (unhide HDd).cell (i := 3) rfl
          have d4 := (unhide HDd).cell (i := 4) rfl
          have d5 := (unhide HDd).cell (i := 5) rfl
          go_wp2_with fail
          refine (unhide QT _).mono ?_
          rintro e X4 ⟨rfl, hb⟩
          replace HT0 := hide (wcell3 (unhide HT0) hb)
          replace HT1 := hide (wcell3 (unhide HT1) hb)
          replace HR0 := hide ((unhide HR0).step hb)
          replace HR1 := hide ((unhide HR1).step hb)
          replace HCc := hide ((unhide HCc).step hb)
          replace HDd := hide ((unhide HDd).step hb)
          replace HW := hide (Below.step (unhide HW) hb)
          clear hb
          clear c0 c1 c2 c3 c4 c5
          clear d0 d1 d2 d3 d4 d5
          clear QT
          have c0 := (unhide HCc).cell (i := 0) rfl
          have c1 := (unhide HCc).cell (i := 1) rfl
          have c2 := (unhide HCc).cell (i := 2) rfl
          have c3 := (unhide HCc).cell (i := 3) rfl
          have c4 := (unhide HCc).cell (i := 4) rfl
          have c5 := (unhide HCc).cell (i := 5) rfl
          have d0 := (unhide HDd).cell (i := 0) rfl
          have d1 := (unhide HDd).cell (i := 1) rfl
          have d2 := (unhide HDd).cell (i := 2) rfl
          have d3 := (unhide HDd).cell (i := 3) rfl
          have d4 := (unhide HDd).cell (i := 4) rfl
          have d5 := (unhide HDd).cell (i := 5) rfl
          go_wp2_with fail
          refine (unhide QU _).mono ?_
          rintro e X5 ⟨rfl, hb⟩
          replace HT0 := hide (wcell3 (unhide HT0) hb)
          replace HT1 := hide (wcell3 (unhide HT1) hb)
          replace HR0 := hide ((unhide HR0).step hb)
          replace HR1 := hide ((unhide HR1).step hb)
          replace HCc := hide ((unhide HCc).step hb)
          replace HDd := hide ((unhide HDd).step hb)
          replace HW := hide (Below.step (unhide HW) hb)
          clear hb
          clear c0 c1 c2 c3 c4 c5
          clear d0 d1 d2 d3 d4 d5
          clear QU
          have t0 := unhide HT0
          have t1 := unhide HT1
          simp only [List.getD_cons_zero, List.getD_cons_succ, List.length_cons, List.length_nil] at t0 t1 hc0 hc1'
          have u0 := (unhide HR0).cell (i := 0) rfl
          have u1 := (unhide HR0).cell (i := 1) rfl
          have u2 := (unhide HR1).cell (i := 0) rfl
          go_wp2
          go_ret
          exact ⟨ret_bool (by simp), unhide HW⟩
  case inr.inl =>
    clear HXY
    go_upto_region 14 with (fail)
    have hwg := (unhide HBb).lt
    have hwz := (unhide HW).size
    go_cut [7, 8] (fun s7 s8 wx => ∃ gc gd : Nat, s7 = .pointer (some ⟨gc, 0, none⟩) ∧ s8 = .pointer (some ⟨gd, 0, none⟩) ∧ gb < gc ∧ gb < gd ∧ gc ≠ gd ∧ Hid (OwnV wx gc [.int .i64 ax, .int .i64 ay, .int .i64 au, .int .i64 av, .int .i64 ak, .int .i64 ad]) ∧ Hid (OwnV wx gd [.int .i64 cx, .int .i64 cy, .int .i64 cu, .int .i64 cv, .int .i64 ck, .int .i64 cd]) ∧ Hid (OwnV wx ga [.int .i64 ax, .int .i64 ay, .int .i64 au, .int .i64 av, .int .i64 ak, .int .i64 ad]) ∧ Hid (OwnV wx gb [.int .i64 cx, .int .i64 cy, .int .i64 cu, .int .i64 cv, .int .i64 ck, .int .i64 cd]) ∧ Hid (Below w.heap.size w wx))
    case first =>
      have p0 := (unhide HAa).cell (i := 0) rfl
      have p1 := (unhide HAa).cell (i := 1) rfl
      have p2 := (unhide HAa).cell (i := 2) rfl
      have p3 := (unhide HAa).cell (i := 3) rfl
      have p4 := (unhide HAa).cell (i := 4) rfl
      have p5 := (unhide HAa).cell (i := 5) rfl
      have q0 := (unhide HBb).cell (i := 0) rfl
      have q1 := (unhide HBb).cell (i := 1) rfl
      have q2 := (unhide HBb).cell (i := 2) rfl
      have q3 := (unhide HBb).cell (i := 3) rfl
      have q4 := (unhide HBb).cell (i := 4) rfl
      have q5 := (unhide HBb).cell (i := 5) rfl
      have P0 : ∀ o1, (w6.alloc o1).cell? ⟨ga, 0, none⟩ = some (.int .i64 ax) := fun o1 => ((unhide HAa).step (Below.alloc1 w6 o1)).cell (i := 0) rfl
      have PP0 : ∀ o1 o2, ((w6.alloc o1).alloc o2).cell? ⟨ga, 0, none⟩ = some (.int .i64 ax) := fun o1 o2 => (((unhide HAa).step (Below.alloc1 w6 o1)).step (Below.alloc1 _ o2)).cell (i := 0) rfl
      have Q0 : ∀ o1, (w6.alloc o1).cell? ⟨gb, 0, none⟩ = some (.int .i64 cx) := fun o1 => ((unhide HBb).step (Below.alloc1 w6 o1)).cell (i := 0) rfl
      have QQ0 : ∀ o1 o2, ((w6.alloc o1).alloc o2).cell? ⟨gb, 0, none⟩ = some (.int .i64 cx) := fun o1 o2 => (((unhide HBb).step (Below.alloc1 w6 o1)).step (Below.alloc1 _ o2)).cell (i := 0) rfl
      have P1 : ∀ o1, (w6.alloc o1).cell? ⟨ga, 1, none⟩ = some (.int .i64 ay) := fun o1 => ((unhide HAa).step (Below.alloc1 w6 o1)).cell (i := 1) rfl
      have PP1 : ∀ o1 o2, ((w6.alloc o1).alloc o2).cell? ⟨ga, 1, none⟩ = some (.int .i64 ay) := fun o1 o2 => (((unhide HAa).step (Below.alloc1 w6 o1)).step (Below.alloc1 _ o2)).cell (i := 1) rfl
      have Q1 : ∀ o1, (w6.alloc o1).cell? ⟨gb, 1, none⟩ = some (.int .i64 cy) := fun o1 => ((unhide HBb).step (Below.alloc1 w6 o1)).cell (i := 1) rfl
      have QQ1 : ∀ o1 o2, ((w6.alloc o1).alloc o2).cell? ⟨gb, 1, none⟩ = some (.int .i64 cy) := fun o1 o2 => (((unhide HBb).step (Below.alloc1 w6 o1)).step (Below.alloc1 _ o2)).cell (i := 1) rfl
      have P2 : ∀ o1, (w6.alloc o1).cell? ⟨ga, 2, none⟩ = some (.int .i64 au) := fun o1 => ((unhide HAa).step (Below.alloc1 w6 o1)).cell (i := 2) rfl
      have PP2 : ∀ o1 o2, ((w6.alloc o1).alloc o2).cell? ⟨ga, 2, none⟩ = some (.int .i64 au) := fun o1 o2 => (((unhide HAa).step (Below.alloc1 w6 o1)).step (Below.alloc1 _ o2)).cell (i := 2) rfl
      have Q2 : ∀ o1, (w6.alloc o1).cell? ⟨gb, 2, none⟩ = some (.int .i64 cu) := fun o1 => ((unhide HBb).step (Below.alloc1 w6 o1)).cell (i := 2) rfl
      have QQ2 : ∀ o1 o2, ((w6.alloc o1).alloc o2).cell? ⟨gb, 2, none⟩ = some (.int .i64 cu) := fun o1 o2 => (((unhide HBb).step (Below.alloc1 w6 o1)).step (Below.alloc1 _ o2)).cell (i := 2) rfl
      have P3 : ∀ o1, (w6.alloc o1).cell? ⟨ga, 3, none⟩ = some (.int .i64 av) := fun o1 => ((unhide HAa).step (Below.alloc1 w6 o1)).cell (i := 3) rfl
      have PP3 : ∀ o1 o2, ((w6.alloc o1).alloc o2).cell? ⟨ga, 3, none⟩ = some (.int .i64 av) := fun o1 o2 => (((unhide HAa).step (Below.alloc1 w6 o1)).step (Below.alloc1 _ o2)).cell (i := 3) rfl
      have Q3 : ∀ o1, (w6.alloc o1).cell? ⟨gb, 3, none⟩ = some (.int .i64 cv) := fun o1 => ((unhide HBb).step (Below.alloc1 w6 o1)).cell (i := 3) rfl
      have QQ3 : ∀ o1 o2, ((w6.alloc o1).alloc o2).cell? ⟨gb, 3, none⟩ = some (.int .i64 cv) := fun o1 o2 => (((unhide HBb).step (Below.alloc1 w6 o1)).step (Below.alloc1 _ o2)).cell (i := 3) rfl
      have P4 : ∀ o1, (w6.alloc o1).cell? ⟨ga, 4, none⟩ = some (.int .i64 ak) := fun o1 => ((unhide HAa).step (Below.alloc1 w6 o1)).cell (i := 4) rfl
      have PP4 : ∀ o1 o2, ((w6.alloc o1).alloc o2).cell? ⟨ga, 4, none⟩ = some (.int .i64 ak) := fun o1 o2 => (((unhide HAa).step (Below.alloc1 w6 o1)).step (Below.alloc1 _ o2)).cell (i := 4) rfl
      have Q4 : ∀ o1, (w6.alloc o1).cell? ⟨gb, 4, none⟩ = some (.int .i64 ck) := fun o1 => ((unhide HBb).step (Below.alloc1 w6 o1)).cell (i := 4) rfl
      have QQ4 : ∀ o1 o2, ((w6.alloc o1).alloc o2).cell? ⟨gb, 4, none⟩ = some (.int .i64 ck) := fun o1 o2 => (((unhide HBb).step (Below.alloc1 w6 o1)).step (Below.alloc1 _ o2)).cell (i := 4) rfl
      have P5 : ∀ o1, (w6.alloc o1).cell? ⟨ga, 5, none⟩ = some (.int .i64 ad) := fun o1 => ((unhide HAa).step (Below.alloc1 w6 o1)).cell (i := 5) rfl
      have PP5 : ∀ o1 o2, ((w6.alloc o1).alloc o2).cell? ⟨ga, 5, none⟩ = some (.int .i64 ad) := fun o1 o2 => (((unhide HAa).step (Below.alloc1 w6 o1)).step (Below.alloc1 _ o2)).cell (i := 5) rfl
      have Q5 : ∀ o1, (w6.alloc o1).cell? ⟨gb, 5, none⟩ = some (.int .i64 cd) := fun o1 => ((unhide HBb).step (Below.alloc1 w6 o1)).cell (i := 5) rfl
      have QQ5 : ∀ o1 o2, ((w6.alloc o1).alloc o2).cell? ⟨gb, 5, none⟩ = some (.int .i64 cd) := fun o1 o2 => (((unhide HBb).step (Below.alloc1 w6 o1)).step (Below.alloc1 _ o2)).cell (i := 5) rfl
      go_region
      all_goals
        go_wp2_with fail
        go_meet
        first
          | exact ⟨w6.heap.size, w6.heap.size + 1, rfl, rfl, by omega, by omega, by omega, ((ownV_alloc w6 _ _).step (Below.alloc1 _ _)).step (Below.refl _ _).drew, (by have h9 := ownV_alloc (w6.alloc (.cells #[.int .i64 ax, .int .i64 ay, .int .i64 au, .int .i64 av, .int .i64 ak, .int .i64 ad] 25)) #[.int .i64 cx, .int .i64 cy, .int .i64 cu, .int .i64 cv, .int .i64 ck, .int .i64 cd] 25; rw [World.size_alloc] at h9; exact h9.step (Below.refl _ _).drew), (((unhide HAa).step (Below.alloc1 w6 _)).step (Below.alloc1 _ _)).step (Below.refl _ _).drew, (((unhide HBb).step (Below.alloc1 w6 _)).step (Below.alloc1 _ _)).step (Below.refl _ _).drew, Below.step (Below.step (Below.step (unhide HW) (Below.alloc1 w6 _)) (Below.alloc1 _ _)) (Below.refl _ _).drew⟩
          | exact ⟨w6.heap.size + 1, w6.heap.size, rfl, rfl, by omega, by omega, by omega, (by have h9 := ownV_alloc (w6.alloc (.cells #[.int .i64 cx, .int .i64 cy, .int .i64 cu, .int .i64 cv, .int .i64 ck, .int .i64 cd] 25)) #[.int .i64 ax, .int .i64 ay, .int .i64 au, .int .i64 av, .int .i64 ak, .int .i64 ad] 25; rw [World.size_alloc] at h9; exact h9.step (Below.refl _ _).drew), ((ownV_alloc w6 _ _).step (Below.alloc1 _ _)).step (Below.refl _ _).drew, (((unhide HAa).step (Below.alloc1 w6 _)).step (Below.alloc1 _ _)).step (Below.refl _ _).drew, (((unhide HBb).step (Below.alloc1 w6 _)).step (Below.alloc1 _ _)).step (Below.refl _ _).drew, Below.step (Below.step (Below.step (unhide HW) (Below.alloc1 w6 _)) (Below.alloc1 _ _)) (Below.refl _ _).drew⟩
    case rest =>
      clear HAa HBb HW hwg hwz
      obtain ⟨gc, gd, rfl, rfl, hc1, hd1, hcd, HCc, HDd, HAa, HBb, HW⟩ := hcut
      have hW0 := (unhide HW).size
      have hgaw : w.heap.size ≤ ga := hgaw0
      obtain ⟨EX, eEX⟩ : ∃ z, z = (-ay).tdiv 2 := ⟨_, rfl⟩
      have bEX : -100000 ≤ EX ∧ EX ≤ 100000 := by have := tdiv_absD (-ay) 2; omega
      have qEX : IntKind.i64.wrap ((-ay).tdiv 2) = EX := by rw [← eEX, IntKind.wrap_i64]; omega
      have rEX : (-ay).tdiv 2 = EX := eEX.symm
      obtain ⟨EY, eEY⟩ : ∃ z, z = ax.tdiv 2 := ⟨_, rfl⟩
      have bEY : -100000 ≤ EY ∧ EY ≤ 100000 := by have := tdiv_absD ax 2; omega
      have qEY : IntKind.i64.wrap (ax.tdiv 2) = EY := by rw [← eEY, IntKind.wrap_i64]; omega
      have rEY : ax.tdiv 2 = EY := eEY.symm
      obtain ⟨m1, em1⟩ : ∃ z, z = cy - ay := ⟨_, rfl⟩
      have bm1 : -200000 ≤ m1 ∧ m1 ≤ 200000 := by omega
      have qm1 : IntKind.i64.wrap (cy - ay) = m1 := by rw [← em1, IntKind.wrap_i64]; omega
      have rm1 : cy - ay = m1 := em1.symm
      obtain ⟨m2, em2⟩ : ∃ z, z = cx - ax := ⟨_, rfl⟩
      have bm2 : -200000 ≤ m2 ∧ m2 ≤ 200000 := by omega
      have qm2 : IntKind.i64.wrap (cx - ax) = m2 := by rw [← em2, IntKind.wrap_i64]; omega
      have rm2 : cx - ax = m2 := em2.symm
      obtain ⟨FX, eFX⟩ : ∃ z, z = EX - m1 := ⟨_, rfl⟩
      have bFX : -300000 ≤ FX ∧ FX ≤ 300000 := by omega
      have qFX : IntKind.i64.wrap (EX - m1) = FX := by rw [← eFX, IntKind.wrap_i64]; omega
      have rFX : EX - m1 = FX := eFX.symm
      obtain ⟨FY, eFY⟩ : ∃ z, z = EY + m2 := ⟨_, rfl⟩
      have bFY : -300000 ≤ FY ∧ FY ≤ 300000 := by omega
      have qFY : IntKind.i64.wrap (EY + m2) = FY := by rw [← eFY, IntKind.wrap_i64]; omega
      have rFY : EY + m2 = FY := eFY.symm
      have HFX : Hid (FX - EX = -(cy - ay)) := by show _ = _; omega
      have HFY : Hid (FY - EY = cx - ax) := by show _ = _; omega
      clear eEX eEY em1 em2 eFX eFY
      go_upto_region 15 with (fail)
      have lHAa1 := (unhide HAa).cell (i := 1) rfl
      have s9 := (unhide HCc).cell (i := 0) rfl
      have sf := (unhide HCc).frozen 0
      obtain ⟨Y0, eWn⟩ : ∃ Wq, Wq = wc.setCell ⟨gc, 0, none⟩ (.int .i64 (EX)) := ⟨_, rfl⟩
      have hkp := kept1 wc gc 0 (.int .i64 (EX))
      rw [← eWn] at hkp
      replace HCc : Hid (OwnV Y0 gc [.int .i64 (EX), .int .i64 ay, .int .i64 au, .int .i64 av, .int .i64 ak, .int .i64 ad]) := by show OwnV _ _ _; rw [eWn]; exact (unhide HCc).set 0 _ (by simp)
      replace HAa := hide ((unhide HAa).kept hkp (fun e => by have e : ga = gc := e; omega))
      replace HBb := hide ((unhide HBb).kept hkp (fun e => by have e : gb = gc := e; omega))
      replace HDd := hide ((unhide HDd).kept hkp (fun e => by have e : gd = gc := e; omega))
      have hwb := (unhide HW).size
      replace HW := hide ((unhide HW).trans (hkp.below hwb fun b e => by have e : b = gc := e; omega))
      go_upto_region 16 with (fail)
      rw [← eWn]
      clear eWn hkp hwb s9 sf lHAa1
      have lHAa0 := (unhide HAa).cell (i := 0) rfl
      have s9 := (unhide HCc).cell (i := 1) rfl
      have sf := (unhide HCc).frozen 1
      obtain ⟨Y1, eWn⟩ : ∃ Wq, Wq = Y0.setCell ⟨gc, 1, none⟩ (.int .i64 (EY)) := ⟨_, rfl⟩
      have hkp := kept1 Y0 gc 1 (.int .i64 (EY))
      rw [← eWn] at hkp
      replace HCc : Hid (OwnV Y1 gc [.int .i64 (EX), .int .i64 (EY), .int .i64 au, .int .i64 av, .int .i64 ak, .int .i64 ad]) := by show OwnV _ _ _; rw [eWn]; exact (unhide HCc).set 1 _ (by simp)
      replace HAa := hide ((unhide HAa).kept hkp (fun e => by have e : ga = gc := e; omega))
      replace HBb := hide ((unhide HBb).kept hkp (fun e => by have e : gb = gc := e; omega))
      replace HDd := hide ((unhide HDd).kept hkp (fun e => by have e : gd = gc := e; omega))
      have hwb := (unhide HW).size
      replace HW := hide ((unhide HW).trans (hkp.below hwb fun b e => by have e : b = gc := e; omega))
      go_upto_region 17 with (fail)
      rw [← eWn]
      clear eWn hkp hwb s9 sf lHAa0
      have lHCc0 := (unhide HCc).cell (i := 0) rfl
      have lHBb1 := (unhide HBb).cell (i := 1) rfl
      have lHAa1 := (unhide HAa).cell (i := 1) rfl
      have s9 := (unhide HDd).cell (i := 0) rfl
      have sf := (unhide HDd).frozen 0
      obtain ⟨Y2, eWn⟩ : ∃ Wq, Wq = Y1.setCell ⟨gd, 0, none⟩ (.int .i64 (FX)) := ⟨_, rfl⟩
      have hkp := kept1 Y1 gd 0 (.int .i64 (FX))
      rw [← eWn] at hkp
      replace HDd : Hid (OwnV Y2 gd [.int .i64 (FX), .int .i64 cy, .int .i64 cu, .int .i64 cv, .int .i64 ck, .int .i64 cd]) := by show OwnV _ _ _; rw [eWn]; exact (unhide HDd).set 0 _ (by simp)
      replace HAa := hide ((unhide HAa).kept hkp (fun e => by have e : ga = gd := e; omega))
      replace HBb := hide ((unhide HBb).kept hkp (fun e => by have e : gb = gd := e; omega))
      replace HCc := hide ((unhide HCc).kept hkp (fun e => by have e : gc = gd := e; omega))
      have hwb := (unhide HW).size
      replace HW := hide ((unhide HW).trans (hkp.below hwb fun b e => by have e : b = gd := e; omega))
      go_upto_region 18 with (fail)
      rw [← eWn]
      clear eWn hkp hwb s9 sf lHCc0 lHBb1 lHAa1
      have lHCc1 := (unhide HCc).cell (i := 1) rfl
      have lHBb0 := (unhide HBb).cell (i := 0) rfl
      have lHAa0 := (unhide HAa).cell (i := 0) rfl
      have s9 := (unhide HDd).cell (i := 1) rfl
      have sf := (unhide HDd).frozen 1
      obtain ⟨Y3, eWn⟩ : ∃ Wq, Wq = Y2.setCell ⟨gd, 1, none⟩ (.int .i64 (FY)) := ⟨_, rfl⟩
      have hkp := kept1 Y2 gd 1 (.int .i64 (FY))
      rw [← eWn] at hkp
      replace HDd : Hid (OwnV Y3 gd [.int .i64 (FX), .int .i64 (FY), .int .i64 cu, .int .i64 cv, .int .i64 ck, .int .i64 cd]) := by show OwnV _ _ _; rw [eWn]; exact (unhide HDd).set 1 _ (by simp)
      replace HAa := hide ((unhide HAa).kept hkp (fun e => by have e : ga = gd := e; omega))
      replace HBb := hide ((unhide HBb).kept hkp (fun e => by have e : gb = gd := e; omega))
      replace HCc := hide ((unhide HCc).kept hkp (fun e => by have e : gc = gd := e; omega))
      have hwb := (unhide HW).size
      replace HW := hide ((unhide HW).trans (hkp.below hwb fun b e => by have e : b = gd := e; omega))
      go_upto_region 19 with (fail)
      rw [← eWn]
      clear eWn hkp hwb s9 sf lHCc1 lHBb0 lHAa0
      have lHAa3 := (unhide HAa).cell (i := 3) rfl
      have s9 := (unhide HCc).cell (i := 2) rfl
      have sf := (unhide HCc).frozen 2
      obtain ⟨Y4, eWn⟩ : ∃ Wq, Wq = Y3.setCell ⟨gc, 2, none⟩ (.int .i64 (-av)) := ⟨_, rfl⟩
      have hkp := kept1 Y3 gc 2 (.int .i64 (-av))
      rw [← eWn] at hkp
      replace HCc : Hid (OwnV Y4 gc [.int .i64 (EX), .int .i64 (EY), .int .i64 (-av), .int .i64 av, .int .i64 ak, .int .i64 ad]) := by show OwnV _ _ _; rw [eWn]; exact (unhide HCc).set 2 _ (by simp)
      replace HAa := hide ((unhide HAa).kept hkp (fun e => by have e : ga = gc := e; omega))
      replace HBb := hide ((unhide HBb).kept hkp (fun e => by have e : gb = gc := e; omega))
      replace HDd := hide ((unhide HDd).kept hkp (fun e => by have e : gd = gc := e; omega))
      have hwb := (unhide HW).size
      replace HW := hide ((unhide HW).trans (hkp.below hwb fun b e => by have e : b = gc := e; omega))
      go_upto_region 20 with (fail)
      rw [← eWn]
      clear eWn hkp hwb s9 sf lHAa3
      have lHAa2 := (unhide HAa).cell (i := 2) rfl
      have s9 := (unhide HCc).cell (i := 3) rfl
      have sf := (unhide HCc).frozen 3
      obtain ⟨Y5, eWn⟩ : ∃ Wq, Wq = Y4.setCell ⟨gc, 3, none⟩ (.int .i64 (au)) := ⟨_, rfl⟩
      have hkp := kept1 Y4 gc 3 (.int .i64 (au))
      rw [← eWn] at hkp
      replace HCc : Hid (OwnV Y5 gc [.int .i64 (EX), .int .i64 (EY), .int .i64 (-av), .int .i64 (au), .int .i64 ak, .int .i64 ad]) := by show OwnV _ _ _; rw [eWn]; exact (unhide HCc).set 3 _ (by simp)
      replace HAa := hide ((unhide HAa).kept hkp (fun e => by have e : ga = gc := e; omega))
      replace HBb := hide ((unhide HBb).kept hkp (fun e => by have e : gb = gc := e; omega))
      replace HDd := hide ((unhide HDd).kept hkp (fun e => by have e : gd = gc := e; omega))
      have hwb := (unhide HW).size
      replace HW := hide ((unhide HW).trans (hkp.below hwb fun b e => by have e : b = gc := e; omega))
      go_upto_region 21 with (fail)
      rw [← eWn]
      clear eWn hkp hwb s9 sf lHAa2
      have lHBb3 := (unhide HBb).cell (i := 3) rfl
      have s9 := (unhide HDd).cell (i := 2) rfl
      have sf := (unhide HDd).frozen 2
      obtain ⟨Y6, eWn⟩ : ∃ Wq, Wq = Y5.setCell ⟨gd, 2, none⟩ (.int .i64 (-cv)) := ⟨_, rfl⟩
      have hkp := kept1 Y5 gd 2 (.int .i64 (-cv))
      rw [← eWn] at hkp
      replace HDd : Hid (OwnV Y6 gd [.int .i64 (FX), .int .i64 (FY), .int .i64 (-cv), .int .i64 cv, .int .i64 ck, .int .i64 cd]) := by show OwnV _ _ _; rw [eWn]; exact (unhide HDd).set 2 _ (by simp)
      replace HAa := hide ((unhide HAa).kept hkp (fun e => by have e : ga = gd := e; omega))
      replace HBb := hide ((unhide HBb).kept hkp (fun e => by have e : gb = gd := e; omega))
      replace HCc := hide ((unhide HCc).kept hkp (fun e => by have e : gc = gd := e; omega))
      have hwb := (unhide HW).size
      replace HW := hide ((unhide HW).trans (hkp.below hwb fun b e => by have e : b = gd := e; omega))
      go_upto_region 22 with (fail)
      rw [← eWn]
      clear eWn hkp hwb s9 sf lHBb3
      have lHBb2 := (unhide HBb).cell (i := 2) rfl
      have s9 := (unhide HDd).cell (i := 3) rfl
      have sf := (unhide HDd).frozen 3
      obtain ⟨Y7, eWn⟩ : ∃ Wq, Wq = Y6.setCell ⟨gd, 3, none⟩ (.int .i64 (cu)) := ⟨_, rfl⟩
      have hkp := kept1 Y6 gd 3 (.int .i64 (cu))
      rw [← eWn] at hkp
      replace HDd : Hid (OwnV Y7 gd [.int .i64 (FX), .int .i64 (FY), .int .i64 (-cv), .int .i64 (cu), .int .i64 ck, .int .i64 cd]) := by show OwnV _ _ _; rw [eWn]; exact (unhide HDd).set 3 _ (by simp)
      replace HAa := hide ((unhide HAa).kept hkp (fun e => by have e : ga = gd := e; omega))
      replace HBb := hide ((unhide HBb).kept hkp (fun e => by have e : gb = gd := e; omega))
      replace HCc := hide ((unhide HCc).kept hkp (fun e => by have e : gc = gd := e; omega))
      have hwb := (unhide HW).size
      replace HW := hide ((unhide HW).trans (hkp.below hwb fun b e => by have e : b = gd := e; omega))
      go_upto_region 23 with (fail)
      rw [← eWn]
      clear eWn hkp hwb s9 sf lHBb2
      clear qEX qEY qm1 qm2 qFX qFY rEX rEY rm1 rm2 rFX rFY
      have SC := hide fun W => specShipOk_any (EX) (EY) (-av) (au) (ak) (ad) W
      have SD := hide fun W => specShipOk_any (FX) (FY) (-cv) (cu) (ck) (cd) W
      have IA := hide fun W => implShipOk_any ax ay au av ak ad W
      have IB := hide fun W => implShipOk_any cx cy cu cv ck cd W
      rw [unhide HSA] at IA
      rw [unhide HSB] at IB
      unfold vShip at SC SD IA IB
      have c0 := (unhide HCc).cell (i := 0) rfl
      have c1 := (unhide HCc).cell (i := 1) rfl
      have c2 := (unhide HCc).cell (i := 2) rfl
      have c3 := (unhide HCc).cell (i := 3) rfl
      have c4 := (unhide HCc).cell (i := 4) rfl
      have c5 := (unhide HCc).cell (i := 5) rfl
      cases hsc : shipB (EX) (EY) (-av) (au) (ak) (ad) with
      | false =>
        rw [hsc] at SC
        go_wp2_with fail
        refine (unhide SC _).mono ?_
        rintro e X1 ⟨rfl, hb⟩
        replace HAa := hide ((unhide HAa).step hb)
        replace HBb := hide ((unhide HBb).step hb)
        replace HW := hide (Below.step (unhide HW) hb)
        clear hb
        clear c0 c1 c2 c3 c4 c5
        have p0 := (unhide HAa).cell (i := 0) rfl
        have p1 := (unhide HAa).cell (i := 1) rfl
        have p2 := (unhide HAa).cell (i := 2) rfl
        have p3 := (unhide HAa).cell (i := 3) rfl
        have p4 := (unhide HAa).cell (i := 4) rfl
        have p5 := (unhide HAa).cell (i := 5) rfl
        go_upto_region 24 with (fail)
        go_wp2_with fail
        refine (unhide IA _).mono ?_
        rintro e Z1 ⟨rfl, hb⟩
        replace HBb := hide ((unhide HBb).step hb)
        replace HW := hide (Below.step (unhide HW) hb)
        clear hb
        clear p0 p1 p2 p3 p4 p5
        have q0 := (unhide HBb).cell (i := 0) rfl
        have q1 := (unhide HBb).cell (i := 1) rfl
        have q2 := (unhide HBb).cell (i := 2) rfl
        have q3 := (unhide HBb).cell (i := 3) rfl
        have q4 := (unhide HBb).cell (i := 4) rfl
        have q5 := (unhide HBb).cell (i := 5) rfl
        go_wp2_with fail
        refine (unhide IB _).mono ?_
        rintro e Z2 ⟨rfl, hb⟩
        replace HW := hide (Below.step (unhide HW) hb)
        clear hb
        clear q0 q1 q2 q3 q4 q5
        go_wp2
        go_ret
        exact ⟨ret_bool (by simp), unhide HW⟩
      | true =>
        rw [hsc] at SC
        go_wp2_with fail
        refine (unhide SC _).mono ?_
        rintro e X1 ⟨rfl, hb⟩
        replace HAa := hide ((unhide HAa).step hb)
        replace HBb := hide ((unhide HBb).step hb)
        replace HCc := hide ((unhide HCc).step hb)
        replace HDd := hide ((unhide HDd).step hb)
        replace HW := hide (Below.step (unhide HW) hb)
        clear hb
        clear c0 c1 c2 c3 c4 c5
        have d0 := (unhide HDd).cell (i := 0) rfl
        have d1 := (unhide HDd).cell (i := 1) rfl
        have d2 := (unhide HDd).cell (i := 2) rfl
        have d3 := (unhide HDd).cell (i := 3) rfl
        have d4 := (unhide HDd).cell (i := 4) rfl
        have d5 := (unhide HDd).cell (i := 5) rfl
        cases hsd : shipB (FX) (FY) (-cv) (cu) (ck) (cd) with
        | false =>
          rw [hsd] at SD
          go_wp2_with fail
          refine (unhide SD _).mono ?_
          rintro e X2 ⟨rfl, hb⟩
          replace HAa := hide ((unhide HAa).step hb)
          replace HBb := hide ((unhide HBb).step hb)
          replace HW := hide (Below.step (unhide HW) hb)
          clear hb
          clear d0 d1 d2 d3 d4 d5
          have p0 := (unhide HAa).cell (i := 0) rfl
          have p1 := (unhide HAa).cell (i := 1) rfl
          have p2 := (unhide HAa).cell (i := 2) rfl
          have p3 := (unhide HAa).cell (i := 3) rfl
          have p4 := (unhide HAa).cell (i := 4) rfl
          have p5 := (unhide HAa).cell (i := 5) rfl
          go_upto_region 24 with (fail)
          go_wp2_with fail
          refine (unhide IA _).mono ?_
          rintro e Z1 ⟨rfl, hb⟩
          replace HBb := hide ((unhide HBb).step hb)
          replace HW := hide (Below.step (unhide HW) hb)
          clear hb
          clear p0 p1 p2 p3 p4 p5
          have q0 := (unhide HBb).cell (i := 0) rfl
          have q1 := (unhide HBb).cell (i := 1) rfl
          have q2 := (unhide HBb).cell (i := 2) rfl
          have q3 := (unhide HBb).cell (i := 3) rfl
          have q4 := (unhide HBb).cell (i := 4) rfl
          have q5 := (unhide HBb).cell (i := 5) rfl
          go_wp2_with fail
          refine (unhide IB _).mono ?_
          rintro e Z2 ⟨rfl, hb⟩
          replace HW := hide (Below.step (unhide HW) hb)
          clear hb
          clear q0 q1 q2 q3 q4 q5
          go_wp2
          go_ret
          exact ⟨ret_bool (by simp), unhide HW⟩
        | true =>
          rw [hsd] at SD
          go_wp2_with fail
          refine (unhide SD _).mono ?_
          rintro e X2 ⟨rfl, hb⟩
          replace HAa := hide ((unhide HAa).step hb)
          replace HBb := hide ((unhide HBb).step hb)
          replace HCc := hide ((unhide HCc).step hb)
          replace HDd := hide ((unhide HDd).step hb)
          replace HW := hide (Below.step (unhide HW) hb)
          clear hb
          clear d0 d1 d2 d3 d4 d5
          have QT := hide fun W => implDuty_any (EX) (EY) (-av) (au) (ak) (ad) (FX) (FY) (-cv) (cu) (ck) (cd) W
          have QU := hide fun W => implDuty_any (FX) (FY) (-cv) (cu) (ck) (cd) (EX) (EY) (-av) (au) (ak) (ad) W
          rw [duty_turn (unhide HSA) (unhide HSB) hsc hsd (unhide HFX) (unhide HFY), ← unhide HEX] at QT
          rw [duty_turn (unhide HSB) (unhide HSA) hsd hsc (by have := unhide HFX; omega) (by have := unhide HFY; omega), ← unhide HEY] at QU
          unfold vShip at QT QU
          have hsh : shipsB [(ax, ay, au, av, ak, ad), (cx, cy, cu, cv, ck, cd)] = true := by unfold shipsB; simp [okT, unhide HSA, unhide HSB]
          have hrows : dutiesR [(ax, ay, au, av, ak, ad), (cx, cy, cu, cv, ck, cd)] = [[0, 2], [1, 0]] := by unfold dutiesR; rw [hsh]; show dutRows [(ax, ay, au, av, ak, ad), (cx, cy, cu, cv, ck, cd)] = _; rw [show dutRows [(ax, ay, au, av, ak, ad), (cx, cy, cu, cv, ck, cd)] = [[0, duty ax ay au av ak ad cx cy cu cv ck cd], [duty cx cy cu cv ck cd ax ay au av ak ad, 0]] from rfl, ← unhide HEX, ← unhide HEY]
          clear hsc hsd
          have p0 := (unhide HAa).cell (i := 0) rfl
          have p1 := (unhide HAa).cell (i := 1) rfl
          have p2 := (unhide HAa).cell (i := 2) rfl
          have p3 := (unhide HAa).cell (i := 3) rfl
          have p4 := (unhide HAa).cell (i := 4) rfl
          have p5 := (unhide HAa).cell (i := 5) rfl
          have q0 := (unhide HBb).cell (i := 0) rfl
          have q1 := (unhide HBb).cell (i := 1) rfl
          have q2 := (unhide HBb).cell (i := 2) rfl
          have q3 := (unhide HBb).cell (i := 3) rfl
          have q4 := (unhide HBb).cell (i := 4) rfl
          have q5 := (unhide HBb).cell (i := 5) rfl
          have hb := Below.alloc1 X2 (.cells #[.int .i64 ax, .int .i64 ay, .int .i64 au, .int .i64 av, .int .i64 ak, .int .i64 ad, .int .i64 cx, .int .i64 cy, .int .i64 cu, .int .i64 cv, .int .i64 ck, .int .i64 cd] 25)
          have HO : OwnV (X2.alloc (.cells #[.int .i64 ax, .int .i64 ay, .int .i64 au, .int .i64 av, .int .i64 ak, .int .i64 ad, .int .i64 cx, .int .i64 cy, .int .i64 cu, .int .i64 cv, .int .i64 ck, .int .i64 cd] 25)) X2.heap.size (recCells 6 eShip [(ax, ay, au, av, ak, ad), (cx, cy, cu, cv, ck, cd)]) := by rw [recs_two]; exact ownV_alloc X2 _ _
          have QL := hide (implDuties_any _ [(ax, ay, au, av, ak, ad), (cx, cy, cu, cv, ck, cd)] _ (OwnV.recsIn (cap := 2) HO (Nat.le_refl _) (by unfold maxLen; omega)))
          rw [hsh, hrows] at QL
          replace HCc := hide ((unhide HCc).step hb)
          replace HDd := hide ((unhide HDd).step hb)
          replace HW := hide (Below.step (unhide HW) hb)
          clear hb
          clear HO hsh hrows
          go_wp2_with fail
          refine (unhide QL).mono ?_
          rintro e X3 ⟨ra, rn, rc, rfl, hrr, hb⟩
          replace HCc := hide ((unhide HCc).step hb)
          replace HDd := hide ((unhide HDd).step hb)
          replace HW := hide (Below.step (unhide HW) hb)
          clear hb
          clear p0 p1 p2 p3 p4 p5
          clear q0 q1 q2 q3 q4 q5
          clear QL
          rcases hrr with ⟨e9, _⟩ | ⟨g9, G9, C9, c9, e9, hl9, hm9, ho9⟩
          · cases e9
          simp only [Value.slice.injEq] at e9
          obtain ⟨rfl, rfl, rfl⟩ := e9
          unfold maxLen at hm9
          simp only [List.length_cons, List.length_nil] at hl9
          have HT0 := hide ((ho9.top).cell (tops_get G9 C9 [[0, 2], [1, 0]] (r := 0) (by simp)))
          have HT1 := hide ((ho9.top).cell (tops_get G9 C9 [[0, 2], [1, 0]] (r := 1) (by simp)))
          have HR0 : Hid (OwnV X3 (G9 0) [.int .i64 0, .int .i64 2]) := ho9.rows 0 (by simp)
          have HR1 : Hid (OwnV X3 (G9 1) [.int .i64 1, .int .i64 0]) := ho9.rows 1 (by simp)
          have HLT : Hid (g9 < X3.heap.size) := (ho9.top).lt
          have hc0 := (ho9.caps 0 (by simp)).1
          have hc1' := (ho9.caps 1 (by simp)).1
          clear ho9
          have c0 := (unhide HCc).cell (i := 0) rfl
          have c1 := (unhide HCc).cell (i := 1) rfl
          have c2 := (unhide HCc).cell (i := 2) rfl
          have c3 := (unhide HCc).cell (i := 3) rfl
          have c4 := (unhide HCc).cell (i := 4) rfl
          have c5 := (unhide HCc).cell (i := 5) rfl
          have d0 := (unhide HDd).cell (i := 0) rfl
          have d1 := (unhide HDd).cell (i := 1) rfl
          have d2 := (unhide HDd).cell (i := 2) rfl
          have d3 := (unhide HDd).cell (i := 3) rfl
          have d4 := (unhide HDd).cell (i := 4) rfl
          have d5 := (unhide HDd).cell (i := 5) rfl
          go_wp2_with fail
          refine (unhide QT _).mono ?_
          rintro e X4 ⟨rfl, hb⟩
          replace HT0 := hide (wcell3 (unhide HT0) hb)
          replace HT1 := hide (wcell3 (unhide HT1) hb)
          replace HR0 := hide ((unhide HR0).step hb)
          replace HR1 := hide ((unhide HR1).step hb)
          replace HCc := hide ((unhide HCc).step hb)
          replace HDd := hide ((unhide HDd).step hb)
          replace HW := hide (Below.step (unhide HW) hb)
          clear hb
          clear c0 c1 c2 c3 c4 c5
          clear d0 d1 d2 d3 d4 d5
          clear QT
          have c0 := (unhide HCc).cell (i := 0) rfl
          have c1 := (unhide HCc).cell (i := 1) rfl
          have c2 := (unhide HCc).cell (i := 2) rfl
          have c3 := (unhide HCc).cell (i := 3) rfl
          have c4 := (unhide HCc).cell (i := 4) rfl
          have c5 := (unhide HCc).cell (i := 5) rfl
          have d0 := (unhide HDd).cell (i := 0) rfl
          have d1 := (unhide HDd).cell (i := 1) rfl
          have d2 := (unhide HDd).cell (i := 2) rfl
          have d3 := (unhide HDd).cell (i := 3) rfl
          have d4 := (unhide HDd).cell (i := 4) rfl
          have d5 := (unhide HDd).cell (i := 5) rfl
          go_wp2_with fail
          refine (unhide QU _).mono ?_
          rintro e X5 ⟨rfl, hb⟩
          replace HT0 := hide (wcell3 (unhide HT0) hb)
          replace HT1 := hide (wcell3 (unhide HT1) hb)
          replace HR0 := hide ((unhide HR0).step hb)
          replace HR1 := hide ((unhide HR1).step hb)
          replace HCc := hide ((unhide HCc).step hb)
          replace HDd := hide ((unhide HDd).step hb)
          replace HW := hide (Below.step (unhide HW) hb)
          clear hb
          clear c0 c1 c2 c3 c4 c5
          clear d0 d1 d2 d3 d4 d5
          clear QU
          have t0 := unhide HT0
          have t1 := unhide HT1
          simp only [List.getD_cons_zero, List.getD_cons_succ, List.length_cons, List.length_nil] at t0 t1 hc0 hc1'
          have u0 := (unhide HR0).cell (i := 0) rfl
          have u1 := (unhide HR0).cell (i := 1) rfl
          have u2 := (unhide HR1).cell (i := 0) rfl
          go_wp2
          go_ret
          exact ⟨ret_bool (by simp), unhide HW⟩
  case inr.inr.inl =>
    clear HXY
    go_upto_region 14 with (fail)
    have hwg := (unhide HBb).lt
    have hwz := (unhide HW).size
    go_cut [7, 8] (fun s7 s8 wx => ∃ gc gd : Nat, s7 = .pointer (some ⟨gc, 0, none⟩) ∧ s8 = .pointer (some ⟨gd, 0, none⟩) ∧ gb < gc ∧ gb < gd ∧ gc ≠ gd ∧ Hid (OwnV wx gc [.int .i64 ax, .int .i64 ay, .int .i64 au, .int .i64 av, .int .i64 ak, .int .i64 ad]) ∧ Hid (OwnV wx gd [.int .i64 cx, .int .i64 cy, .int .i64 cu, .int .i64 cv, .int .i64 ck, .int .i64 cd]) ∧ Hid (OwnV wx ga [.int .i64 ax, .int .i64 ay, .int .i64 au, .int .i64 av, .int .i64 ak, .int .i64 ad]) ∧ Hid (OwnV wx gb [.int .i64 cx, .int .i64 cy, .int .i64 cu, .int .i64 cv, .int .i64 ck, .int .i64 cd]) ∧ Hid (Below w.heap.size w wx))
    case first =>
      have p0 := (unhide HAa).cell (i := 0) rfl
      have p1 := (unhide HAa).cell (i := 1) rfl
      have p2 := (unhide HAa).cell (i := 2) rfl
      have p3 := (unhide HAa).cell (i := 3) rfl
      have p4 := (unhide HAa).cell (i := 4) rfl
      have p5 := (unhide HAa).cell (i := 5) rfl
      have q0 := (unhide HBb).cell (i := 0) rfl
      have q1 := (unhide HBb).cell (i := 1) rfl
      have q2 := (unhide HBb).cell (i := 2) rfl
      have q3 := (unhide HBb).cell (i := 3) rfl
      have q4 := (unhide HBb).cell (i := 4) rfl
      have q5 := (unhide HBb).cell (i := 5) rfl
      have P0 : ∀ o1, (w6.alloc o1).cell? ⟨ga, 0, none⟩ = some (.int .i64 ax) := fun o1 => ((unhide HAa).step (Below.alloc1 w6 o1)).cell (i := 0) rfl
      have PP0 : ∀ o1 o2, ((w6.alloc o1).alloc o2).cell? ⟨ga, 0, none⟩ = some (.int .i64 ax) := fun o1 o2 => (((unhide HAa).step (Below.alloc1 w6 o1)).step (Below.alloc1 _ o2)).cell (i := 0) rfl
      have Q0 : ∀ o1, (w6.alloc o1).cell? ⟨gb, 0, none⟩ = some (.int .i64 cx) := fun o1 => ((unhide HBb).step (Below.alloc1 w6 o1)).cell (i := 0) rfl
      have QQ0 : ∀ o1 o2, ((w6.alloc o1).alloc o2).cell? ⟨gb, 0, none⟩ = some (.int .i64 cx) := fun o1 o2 => (((unhide HBb).step (Below.alloc1 w6 o1)).step (Below.alloc1 _ o2)).cell (i := 0) rfl
      have P1 : ∀ o1, (w6.alloc o1).cell? ⟨ga, 1, none⟩ = some (.int .i64 ay) := fun o1 => ((unhide HAa).step (Below.alloc1 w6 o1)).cell (i := 1) rfl
      have PP1 : ∀ o1 o2, ((w6.alloc o1).alloc o2).cell? ⟨ga, 1, none⟩ = some (.int .i64 ay) := fun o1 o2 => (((unhide HAa).step (Below.alloc1 w6 o1)).step (Below.alloc1 _ o2)).cell (i := 1) rfl
      have Q1 : ∀ o1, (w6.alloc o1).cell? ⟨gb, 1, none⟩ = some (.int .i64 cy) := fun o1 => ((unhide HBb).step (Below.alloc1 w6 o1)).cell (i := 1) rfl
      have QQ1 : ∀ o1 o2, ((w6.alloc o1).alloc o2).cell? ⟨gb, 1, none⟩ = some (.int .i64 cy) := fun o1 o2 => (((unhide HBb).step (Below.alloc1 w6 o1)).step (Below.alloc1 _ o2)).cell (i := 1) rfl
      have P2 : ∀ o1, (w6.alloc o1).cell? ⟨ga, 2, none⟩ = some (.int .i64 au) := fun o1 => ((unhide HAa).step (Below.alloc1 w6 o1)).cell (i := 2) rfl
      have PP2 : ∀ o1 o2, ((w6.alloc o1).alloc o2).cell? ⟨ga, 2, none⟩ = some (.int .i64 au) := fun o1 o2 => (((unhide HAa).step (Below.alloc1 w6 o1)).step (Below.alloc1 _ o2)).cell (i := 2) rfl
      have Q2 : ∀ o1, (w6.alloc o1).cell? ⟨gb, 2, none⟩ = some (.int .i64 cu) := fun o1 => ((unhide HBb).step (Below.alloc1 w6 o1)).cell (i := 2) rfl
      have QQ2 : ∀ o1 o2, ((w6.alloc o1).alloc o2).cell? ⟨gb, 2, none⟩ = some (.int .i64 cu) := fun o1 o2 => (((unhide HBb).step (Below.alloc1 w6 o1)).step (Below.alloc1 _ o2)).cell (i := 2) rfl
      have P3 : ∀ o1, (w6.alloc o1).cell? ⟨ga, 3, none⟩ = some (.int .i64 av) := fun o1 => ((unhide HAa).step (Below.alloc1 w6 o1)).cell (i := 3) rfl
      have PP3 : ∀ o1 o2, ((w6.alloc o1).alloc o2).cell? ⟨ga, 3, none⟩ = some (.int .i64 av) := fun o1 o2 => (((unhide HAa).step (Below.alloc1 w6 o1)).step (Below.alloc1 _ o2)).cell (i := 3) rfl
      have Q3 : ∀ o1, (w6.alloc o1).cell? ⟨gb, 3, none⟩ = some (.int .i64 cv) := fun o1 => ((unhide HBb).step (Below.alloc1 w6 o1)).cell (i := 3) rfl
      have QQ3 : ∀ o1 o2, ((w6.alloc o1).alloc o2).cell? ⟨gb, 3, none⟩ = some (.int .i64 cv) := fun o1 o2 => (((unhide HBb).step (Below.alloc1 w6 o1)).step (Below.alloc1 _ o2)).cell (i := 3) rfl
      have P4 : ∀ o1, (w6.alloc o1).cell? ⟨ga, 4, none⟩ = some (.int .i64 ak) := fun o1 => ((unhide HAa).step (Below.alloc1 w6 o1)).cell (i := 4) rfl
      have PP4 : ∀ o1 o2, ((w6.alloc o1).alloc o2).cell? ⟨ga, 4, none⟩ = some (.int .i64 ak) := fun o1 o2 => (((unhide HAa).step (Below.alloc1 w6 o1)).step (Below.alloc1 _ o2)).cell (i := 4) rfl
      have Q4 : ∀ o1, (w6.alloc o1).cell? ⟨gb, 4, none⟩ = some (.int .i64 ck) := fun o1 => ((unhide HBb).step (Below.alloc1 w6 o1)).cell (i := 4) rfl
      have QQ4 : ∀ o1 o2, ((w6.alloc o1).alloc o2).cell? ⟨gb, 4, none⟩ = some (.int .i64 ck) := fun o1 o2 => (((unhide HBb).step (Below.alloc1 w6 o1)).step (Below.alloc1 _ o2)).cell (i := 4) rfl
      have P5 : ∀ o1, (w6.alloc o1).cell? ⟨ga, 5, none⟩ = some (.int .i64 ad) := fun o1 => ((unhide HAa).step (Below.alloc1 w6 o1)).cell (i := 5) rfl
      have PP5 : ∀ o1 o2, ((w6.alloc o1).alloc o2).cell? ⟨ga, 5, none⟩ = some (.int .i64 ad) := fun o1 o2 => (((unhide HAa).step (Below.alloc1 w6 o1)).step (Below.alloc1 _ o2)).cell (i := 5) rfl
      have Q5 : ∀ o1, (w6.alloc o1).cell? ⟨gb, 5, none⟩ = some (.int .i64 cd) := fun o1 => ((unhide HBb).step (Below.alloc1 w6 o1)).cell (i := 5) rfl
      have QQ5 : ∀ o1 o2, ((w6.alloc o1).alloc o2).cell? ⟨gb, 5, none⟩ = some (.int .i64 cd) := fun o1 o2 => (((unhide HBb).step (Below.alloc1 w6 o1)).step (Below.alloc1 _ o2)).cell (i := 5) rfl
      go_region
      all_goals
        go_wp2_with fail
        go_meet
        first
          | exact ⟨w6.heap.size, w6.heap.size + 1, rfl, rfl, by omega, by omega, by omega, ((ownV_alloc w6 _ _).step (Below.alloc1 _ _)).step (Below.refl _ _).drew, (by have h9 := ownV_alloc (w6.alloc (.cells #[.int .i64 ax, .int .i64 ay, .int .i64 au, .int .i64 av, .int .i64 ak, .int .i64 ad] 25)) #[.int .i64 cx, .int .i64 cy, .int .i64 cu, .int .i64 cv, .int .i64 ck, .int .i64 cd] 25; rw [World.size_alloc] at h9; exact h9.step (Below.refl _ _).drew), (((unhide HAa).step (Below.alloc1 w6 _)).step (Below.alloc1 _ _)).step (Below.refl _ _).drew, (((unhide HBb).step (Below.alloc1 w6 _)).step (Below.alloc1 _ _)).step (Below.refl _ _).drew, Below.step (Below.step (Below.step (unhide HW) (Below.alloc1 w6 _)) (Below.alloc1 _ _)) (Below.refl _ _).drew⟩
          | exact ⟨w6.heap.size + 1, w6.heap.size, rfl, rfl, by omega, by omega, by omega, (by have h9 := ownV_alloc (w6.alloc (.cells #[.int .i64 cx, .int .i64 cy, .int .i64 cu, .int .i64 cv, .int .i64 ck, .int .i64 cd] 25)) #[.int .i64 ax, .int .i64 ay, .int .i64 au, .int .i64 av, .int .i64 ak, .int .i64 ad] 25; rw [World.size_alloc] at h9; exact h9.step (Below.refl _ _).drew), ((ownV_alloc w6 _ _).step (Below.alloc1 _ _)).step (Below.refl _ _).drew, (((unhide HAa).step (Below.alloc1 w6 _)).step (Below.alloc1 _ _)).step (Below.refl _ _).drew, (((unhide HBb).step (Below.alloc1 w6 _)).step (Below.alloc1 _ _)).step (Below.refl _ _).drew, Below.step (Below.step (Below.step (unhide HW) (Below.alloc1 w6 _)) (Below.alloc1 _ _)) (Below.refl _ _).drew⟩
    case rest =>
      clear HAa HBb HW hwg hwz
      obtain ⟨gc, gd, rfl, rfl, hc1, hd1, hcd, HCc, HDd, HAa, HBb, HW⟩ := hcut
      have hW0 := (unhide HW).size
      have hgaw : w.heap.size ≤ ga := hgaw0
      obtain ⟨EX, eEX⟩ : ∃ z, z = (-ay).tdiv 2 := ⟨_, rfl⟩
      have bEX : -100000 ≤ EX ∧ EX ≤ 100000 := by have := tdiv_absD (-ay) 2; omega
      have qEX : IntKind.i64.wrap ((-ay).tdiv 2) = EX := by rw [← eEX, IntKind.wrap_i64]; omega
      have rEX : (-ay).tdiv 2 = EX := eEX.symm
      obtain ⟨EY, eEY⟩ : ∃ z, z = ax.tdiv 2 := ⟨_, rfl⟩
      have bEY : -100000 ≤ EY ∧ EY ≤ 100000 := by have := tdiv_absD ax 2; omega
      have qEY : IntKind.i64.wrap (ax.tdiv 2) = EY := by rw [← eEY, IntKind.wrap_i64]; omega
      have rEY : ax.tdiv 2 = EY := eEY.symm
      obtain ⟨m1, em1⟩ : ∃ z, z = cy - ay := ⟨_, rfl⟩
      have bm1 : -200000 ≤ m1 ∧ m1 ≤ 200000 := by omega
      have qm1 : IntKind.i64.wrap (cy - ay) = m1 := by rw [← em1, IntKind.wrap_i64]; omega
      have rm1 : cy - ay = m1 := em1.symm
      obtain ⟨m2, em2⟩ : ∃ z, z = cx - ax := ⟨_, rfl⟩
      have bm2 : -200000 ≤ m2 ∧ m2 ≤ 200000 := by omega
      have qm2 : IntKind.i64.wrap (cx - ax) = m2 := by rw [← em2, IntKind.wrap_i64]; omega
      have rm2 : cx - ax = m2 := em2.symm
      obtain ⟨FX, eFX⟩ : ∃ z, z = EX - m1 := ⟨_, rfl⟩
      have bFX : -300000 ≤ FX ∧ FX ≤ 300000 := by omega
      have qFX : IntKind.i64.wrap (EX - m1) = FX := by rw [← eFX, IntKind.wrap_i64]; omega
      have rFX : EX - m1 = FX := eFX.symm
      obtain ⟨FY, eFY⟩ : ∃ z, z = EY + m2 := ⟨_, rfl⟩
      have bFY : -300000 ≤ FY ∧ FY ≤ 300000 := by omega
      have qFY : IntKind.i64.wrap (EY + m2) = FY := by rw [← eFY, IntKind.wrap_i64]; omega
      have rFY : EY + m2 = FY := eFY.symm
      have HFX : Hid (FX - EX = -(cy - ay)) := by show _ = _; omega
      have HFY : Hid (FY - EY = cx - ax) := by show _ = _; omega
      clear eEX eEY em1 em2 eFX eFY
      go_upto_region 15 with (fail)
      have lHAa1 := (unhide HAa).cell (i := 1) rfl
      have s9 := (unhide HCc).cell (i := 0) rfl
      have sf := (unhide HCc).frozen 0
      obtain ⟨Y0, eWn⟩ : ∃ Wq, Wq = wc.setCell ⟨gc, 0, none⟩ (.int .i64 (EX)) := ⟨_, rfl⟩
      have hkp := kept1 wc gc 0 (.int .i64 (EX))
      rw [← eWn] at hkp
      replace HCc : Hid (OwnV Y0 gc [.int .i64 (EX), .int .i64 ay, .int .i64 au, .int .i64 av, .int .i64 ak, .int .i64 ad]) := by show OwnV _ _ _; rw [eWn]; exact (unhide HCc).set 0 _ (by simp)
      replace HAa := hide ((unhide HAa).kept hkp (fun e => by have e : ga = gc := e; omega))
      replace HBb := hide ((unhide HBb).kept hkp (fun e => by have e : gb = gc := e; omega))
      replace HDd := hide ((unhide HDd).kept hkp (fun e => by have e : gd = gc := e; omega))
      have hwb := (unhide HW).size
      replace HW := hide ((unhide HW).trans (hkp.below hwb fun b e => by have e : b = gc := e; omega))
      go_upto_region 16 with (fail)
      rw [← eWn]
      clear eWn hkp hwb s9 sf lHAa1
      have lHAa0 := (unhide HAa).cell (i := 0) rfl
      have s9 := (unhide HCc).cell (i := 1) rfl
      have sf := (unhide HCc).frozen 1
      obtain ⟨Y1, eWn⟩ : ∃ Wq, Wq = Y0.setCell ⟨gc, 1, none⟩ (.int .i64 (EY)) := ⟨_, rfl⟩
      have hkp := kept1 Y0 gc 1 (.int .i64 (EY))
      rw [← eWn] at hkp
      replace HCc : Hid (OwnV Y1 gc [.int .i64 (EX), .int .i64 (EY), .int .i64 au, .int .i64 av, .int .i64 ak, .int .i64 ad]) := by show OwnV _ _ _; rw [eWn]; exact (unhide HCc).set 1 _ (by simp)
      replace HAa := hide ((unhide HAa).kept hkp (fun e => by have e : ga = gc := e; omega))
      replace HBb := hide ((unhide HBb).kept hkp (fun e => by have e : gb = gc := e; omega))
      replace HDd := hide ((unhide HDd).kept hkp (fun e => by have e : gd = gc := e; omega))
      have hwb := (unhide HW).size
      replace HW := hide ((unhide HW).trans (hkp.below hwb fun b e => by have e : b = gc := e; omega))
      go_upto_region 17 with (fail)
      rw [← eWn]
      clear eWn hkp hwb s9 sf lHAa0
      have lHCc0 := (unhide HCc).cell (i := 0) rfl
      have lHBb1 := (unhide HBb).cell (i := 1) rfl
      have lHAa1 := (unhide HAa).cell (i := 1) rfl
      have s9 := (unhide HDd).cell (i := 0) rfl
      have sf := (unhide HDd).frozen 0
      obtain ⟨Y2, eWn⟩ : ∃ Wq, Wq = Y1.setCell ⟨gd, 0, none⟩ (.int .i64 (FX)) := ⟨_, rfl⟩
      have hkp := kept1 Y1 gd 0 (.int .i64 (FX))
      rw [← eWn] at hkp
      replace HDd : Hid (OwnV Y2 gd [.int .i64 (FX), .int .i64 cy, .int .i64 cu, .int .i64 cv, .int .i64 ck, .int .i64 cd]) := by show OwnV _ _ _; rw [eWn]; exact (unhide HDd).set 0 _ (by simp)
      replace HAa := hide ((unhide HAa).kept hkp (fun e => by have e : ga = gd := e; omega))
      replace HBb := hide ((unhide HBb).kept hkp (fun e => by have e : gb = gd := e; omega))
      replace HCc := hide ((unhide HCc).kept hkp (fun e => by have e : gc = gd := e; omega))
      have hwb := (unhide HW).size
      replace HW := hide ((unhide HW).trans (hkp.below hwb fun b e => by have e : b = gd := e; omega))
      go_upto_region 18 with (fail)
      rw [← eWn]
      clear eWn hkp hwb s9 sf lHCc0 lHBb1 lHAa1
      have lHCc1 := (unhide HCc).cell (i := 1) rfl
      have lHBb0 := (unhide HBb).cell (i := 0) rfl
      have lHAa0 := (unhide HAa).cell (i := 0) rfl
      have s9 := (unhide HDd).cell (i := 1) rfl
      have sf := (unhide HDd).frozen 1
      obtain ⟨Y3, eWn⟩ : ∃ Wq, Wq = Y2.setCell ⟨gd, 1, none⟩ (.int .i64 (FY)) := ⟨_, rfl⟩
      have hkp := kept1 Y2 gd 1 (.int .i64 (FY))
      rw [← eWn] at hkp
      replace HDd : Hid (OwnV Y3 gd [.int .i64 (FX), .int .i64 (FY), .int .i64 cu, .int .i64 cv, .int .i64 ck, .int .i64 cd]) := by show OwnV _ _ _; rw [eWn]; exact (unhide HDd).set 1 _ (by simp)
      replace HAa := hide ((unhide HAa).kept hkp (fun e => by have e : ga = gd := e; omega))
      replace HBb := hide ((unhide HBb).kept hkp (fun e => by have e : gb = gd := e; omega))
      replace HCc := hide ((unhide HCc).kept hkp (fun e => by have e : gc = gd := e; omega))
      have hwb := (unhide HW).size
      replace HW := hide ((unhide HW).trans (hkp.below hwb fun b e => by have e : b = gd := e; omega))
      go_upto_region 19 with (fail)
      rw [← eWn]
      clear eWn hkp hwb s9 sf lHCc1 lHBb0 lHAa0
      have lHAa3 := (unhide HAa).cell (i := 3) rfl
      have s9 := (unhide HCc).cell (i := 2) rfl
      have sf := (unhide HCc).frozen 2
      obtain ⟨Y4, eWn⟩ : ∃ Wq, Wq = Y3.setCell ⟨gc, 2, none⟩ (.int .i64 (-av)) := ⟨_, rfl⟩
      have hkp := kept1 Y3 gc 2 (.int .i64 (-av))
      rw [← eWn] at hkp
      replace HCc : Hid (OwnV Y4 gc [.int .i64 (EX), .int .i64 (EY), .int .i64 (-av), .int .i64 av, .int .i64 ak, .int .i64 ad]) := by show OwnV _ _ _; rw [eWn]; exact (unhide HCc).set 2 _ (by simp)
      replace HAa := hide ((unhide HAa).kept hkp (fun e => by have e : ga = gc := e; omega))
      replace HBb := hide ((unhide HBb).kept hkp (fun e => by have e : gb = gc := e; omega))
      replace HDd := hide ((unhide HDd).kept hkp (fun e => by have e : gd = gc := e; omega))
      have hwb := (unhide HW).size
      replace HW := hide ((unhide HW).trans (hkp.below hwb fun b e => by have e : b = gc := e; omega))
      go_upto_region 20 with (fail)
      rw [← eWn]
      clear eWn hkp hwb s9 sf lHAa3
      have lHAa2 := (unhide HAa).cell (i := 2) rfl
      have s9 := (unhide HCc).cell (i := 3) rfl
      have sf := (unhide HCc).frozen 3
      obtain ⟨Y5, eWn⟩ : ∃ Wq, Wq = Y4.setCell ⟨gc, 3, none⟩ (.int .i64 (au)) := ⟨_, rfl⟩
      have hkp := kept1 Y4 gc 3 (.int .i64 (au))
      rw [← eWn] at hkp
      replace HCc : Hid (OwnV Y5 gc [.int .i64 (EX), .int .i64 (EY), .int .i64 (-av), .int .i64 (au), .int .i64 ak, .int .i64 ad]) := by show OwnV _ _ _; rw [eWn]; exact (unhide HCc).set 3 _ (by simp)
      replace HAa := hide ((unhide HAa).kept hkp (fun e => by have e : ga = gc := e; omega))
      replace HBb := hide ((unhide HBb).kept hkp (fun e => by have e : gb = gc := e; omega))
      replace HDd := hide ((unhide HDd).kept hkp (fun e => by have e : gd = gc := e; omega))
      have hwb := (unhide HW).size
      replace HW := hide ((unhide HW).trans (hkp.below hwb fun b e => by have e : b = gc := e; omega))
      go_upto_region 21 with (fail)
      rw [← eWn]
      clear eWn hkp hwb s9 sf lHAa2
      have lHBb3 := (unhide HBb).cell (i := 3) rfl
      have s9 := (unhide HDd).cell (i := 2) rfl
      have sf := (unhide HDd).frozen 2
      obtain ⟨Y6, eWn⟩ : ∃ Wq, Wq = Y5.setCell ⟨gd, 2, none⟩ (.int .i64 (-cv)) := ⟨_, rfl⟩
      have hkp := kept1 Y5 gd 2 (.int .i64 (-cv))
      rw [← eWn] at hkp
      replace HDd : Hid (OwnV Y6 gd [.int .i64 (FX), .int .i64 (FY), .int .i64 (-cv), .int .i64 cv, .int .i64 ck, .int .i64 cd]) := by show OwnV _ _ _; rw [eWn]; exact (unhide HDd).set 2 _ (by simp)
      replace HAa := hide ((unhide HAa).kept hkp (fun e => by have e : ga = gd := e; omega))
      replace HBb := hide ((unhide HBb).kept hkp (fun e => by have e : gb = gd := e; omega))
      replace HCc := hide ((unhide HCc).kept hkp (fun e => by have e : gc = gd := e; omega))
      have hwb := (unhide HW).size
      replace HW := hide ((unhide HW).trans (hkp.below hwb fun b e => by have e : b = gd := e; omega))
      go_upto_region 22 with (fail)
      rw [← eWn]
      clear eWn hkp hwb s9 sf lHBb3
      have lHBb2 := (unhide HBb).cell (i := 2) rfl
      have s9 := (unhide HDd).cell (i := 3) rfl
      have sf := (unhide HDd).frozen 3
      obtain ⟨Y7, eWn⟩ : ∃ Wq, Wq = Y6.setCell ⟨gd, 3, none⟩ (.int .i64 (cu)) := ⟨_, rfl⟩
      have hkp := kept1 Y6 gd 3 (.int .i64 (cu))
      rw [← eWn] at hkp
      replace HDd : Hid (OwnV Y7 gd [.int .i64 (FX), .int .i64 (FY), .int .i64 (-cv), .int .i64 (cu), .int .i64 ck, .int .i64 cd]) := by show OwnV _ _ _; rw [eWn]; exact (unhide HDd).set 3 _ (by simp)
      replace HAa := hide ((unhide HAa).kept hkp (fun e => by have e : ga = gd := e; omega))
      replace HBb := hide ((unhide HBb).kept hkp (fun e => by have e : gb = gd := e; omega))
      replace HCc := hide ((unhide HCc).kept hkp (fun e => by have e : gc = gd := e; omega))
      have hwb := (unhide HW).size
      replace HW := hide ((unhide HW).trans (hkp.below hwb fun b e => by have e : b = gd := e; omega))
      go_upto_region 23 with (fail)
      rw [← eWn]
      clear eWn hkp hwb s9 sf lHBb2
      clear qEX qEY qm1 qm2 qFX qFY rEX rEY rm1 rm2 rFX rFY
      have SC := hide fun W => specShipOk_any (EX) (EY) (-av) (au) (ak) (ad) W
      have SD := hide fun W => specShipOk_any (FX) (FY) (-cv) (cu) (ck) (cd) W
      have IA := hide fun W => implShipOk_any ax ay au av ak ad W
      have IB := hide fun W => implShipOk_any cx cy cu cv ck cd W
      rw [unhide HSA] at IA
      rw [unhide HSB] at IB
      unfold vShip at SC SD IA IB
      have c0 := (unhide HCc).cell (i := 0) rfl
      have c1 := (unhide HCc).cell (i := 1) rfl
      have c2 := (unhide HCc).cell (i := 2) rfl
      have c3 := (unhide HCc).cell (i := 3) rfl
      have c4 := (unhide HCc).cell (i := 4) rfl
      have c5 := (unhide HCc).cell (i := 5) rfl
      cases hsc : shipB (EX) (EY) (-av) (au) (ak) (ad) with
      | false =>
        rw [hsc] at SC
        go_wp2_with fail
        refine (unhide SC _).mono ?_
        rintro e X1 ⟨rfl, hb⟩
        replace HAa := hide ((unhide HAa).step hb)
        replace HBb := hide ((unhide HBb).step hb)
        replace HW := hide (Below.step (unhide HW) hb)
        clear hb
        clear c0 c1 c2 c3 c4 c5
        have p0 := (unhide HAa).cell (i := 0) rfl
        have p1 := (unhide HAa).cell (i := 1) rfl
        have p2 := (unhide HAa).cell (i := 2) rfl
        have p3 := (unhide HAa).cell (i := 3) rfl
        have p4 := (unhide HAa).cell (i := 4) rfl
        have p5 := (unhide HAa).cell (i := 5) rfl
        go_upto_region 24 with (fail)
        go_wp2_with fail
        refine (unhide IA _).mono ?_
        rintro e Z1 ⟨rfl, hb⟩
        replace HBb := hide ((unhide HBb).step hb)
        replace HW := hide (Below.step (unhide HW) hb)
        clear hb
        clear p0 p1 p2 p3 p4 p5
        have q0 := (unhide HBb).cell (i := 0) rfl
        have q1 := (unhide HBb).cell (i := 1) rfl
        have q2 := (unhide HBb).cell (i := 2) rfl
        have q3 := (unhide HBb).cell (i := 3) rfl
        have q4 := (unhide HBb).cell (i := 4) rfl
        have q5 := (unhide HBb).cell (i := 5) rfl
        go_wp2_with fail
        refine (unhide IB _).mono ?_
        rintro e Z2 ⟨rfl, hb⟩
        replace HW := hide (Below.step (unhide HW) hb)
        clear hb
        clear q0 q1 q2 q3 q4 q5
        go_wp2
        go_ret
        exact ⟨ret_bool (by simp), unhide HW⟩
      | true =>
        rw [hsc] at SC
        go_wp2_with fail
        refine (unhide SC _).mono ?_
        rintro e X1 ⟨rfl, hb⟩
        replace HAa := hide ((unhide HAa).step hb)
        replace HBb := hide ((unhide HBb).step hb)
        replace HCc := hide ((unhide HCc).step hb)
        replace HDd := hide ((unhide HDd).step hb)
        replace HW := hide (Below.step (unhide HW) hb)
        clear hb
        clear c0 c1 c2 c3 c4 c5
        have d0 := (unhide HDd).cell (i := 0) rfl
        have d1 := (unhide HDd).cell (i := 1) rfl
        have d2 := (unhide HDd).cell (i := 2) rfl
        have d3 := (unhide HDd).cell (i := 3) rfl
        have d4 := (unhide HDd).cell (i := 4) rfl
        have d5 := (unhide HDd).cell (i := 5) rfl
        cases hsd : shipB (FX) (FY) (-cv) (cu) (ck) (cd) with
        | false =>
          rw [hsd] at SD
          go_wp2_with fail
          refine (unhide SD _).mono ?_
          rintro e X2 ⟨rfl, hb⟩
          replace HAa := hide ((unhide HAa).step hb)
          replace HBb := hide ((unhide HBb).step hb)
          replace HW := hide (Below.step (unhide HW) hb)
          clear hb
          clear d0 d1 d2 d3 d4 d5
          have p0 := (unhide HAa).cell (i := 0) rfl
          have p1 := (unhide HAa).cell (i := 1) rfl
          have p2 := (unhide HAa).cell (i := 2) rfl
          have p3 := (unhide HAa).cell (i := 3) rfl
          have p4 := (unhide HAa).cell (i := 4) rfl
          have p5 := (unhide HAa).cell (i := 5) rfl
          go_upto_region 24 with (fail)
          go_wp2_with fail
          refine (unhide IA _).mono ?_
          rintro e Z1 ⟨rfl, hb⟩
          replace HBb := hide ((unhide HBb).step hb)
          replace HW := hide (Below.step (unhide HW) hb)
          clear hb
          clear p0 p1 p2 p3 p4 p5
          have q0 := (unhide HBb).cell (i := 0) rfl
          have q1 := (unhide HBb).cell (i := 1) rfl
          have q2 := (unhide HBb).cell (i := 2) rfl
          have q3 := (unhide HBb).cell (i := 3) rfl
          have q4 := (unhide HBb).cell (i := 4) rfl
          have q5 := (unhide HBb).cell (i := 5) rfl
          go_wp2_with fail
          refine (unhide IB _).mono ?_
          rintro e Z2 ⟨rfl, hb⟩
          replace HW := hide (Below.step (unhide HW) hb)
          clear hb
          clear q0 q1 q2 q3 q4 q5
          go_wp2
          go_ret
          exact ⟨ret_bool (by simp), unhide HW⟩
        | true =>
          rw [hsd] at SD
          go_wp2_with fail
          refine (unhide SD _).mono ?_
          rintro e X2 ⟨rfl, hb⟩
          replace HAa := hide ((unhide HAa).step hb)
          replace HBb := hide ((unhide HBb).step hb)
          replace HCc := hide ((unhide HCc).step hb)
          replace HDd := hide ((unhide HDd).step hb)
          replace HW := hide (Below.step (unhide HW) hb)
          clear hb
          clear d0 d1 d2 d3 d4 d5
          have QT := hide fun W => implDuty_any (EX) (EY) (-av) (au) (ak) (ad) (FX) (FY) (-cv) (cu) (ck) (cd) W
          have QU := hide fun W => implDuty_any (FX) (FY) (-cv) (cu) (ck) (cd) (EX) (EY) (-av) (au) (ak) (ad) W
          rw [duty_turn (unhide HSA) (unhide HSB) hsc hsd (unhide HFX) (unhide HFY), ← unhide HEX] at QT
          rw [duty_turn (unhide HSB) (unhide HSA) hsd hsc (by have := unhide HFX; omega) (by have := unhide HFY; omega), ← unhide HEY] at QU
          unfold vShip at QT QU
          have hsh : shipsB [(ax, ay, au, av, ak, ad), (cx, cy, cu, cv, ck, cd)] = true := by unfold shipsB; simp [okT, unhide HSA, unhide HSB]
          have hrows : dutiesR [(ax, ay, au, av, ak, ad), (cx, cy, cu, cv, ck, cd)] = [[0, 0], [0, 0]] := by unfold dutiesR; rw [hsh]; show dutRows [(ax, ay, au, av, ak, ad), (cx, cy, cu, cv, ck, cd)] = _; rw [show dutRows [(ax, ay, au, av, ak, ad), (cx, cy, cu, cv, ck, cd)] = [[0, duty ax ay au av ak ad cx cy cu cv ck cd], [duty cx cy cu cv ck cd ax ay au av ak ad, 0]] from rfl, ← unhide HEX, ← unhide HEY]
          clear hsc hsd
          have p0 := (unhide HAa).cell (i := 0) rfl
          have p1 := (unhide HAa).cell (i := 1) rfl
          have p2 := (unhide HAa).cell (i := 2) rfl
          have p3 := (unhide HAa).cell (i := 3) rfl
          have p4 := (unhide HAa).cell (i := 4) rfl
          have p5 := (unhide HAa).cell (i := 5) rfl
          have q0 := (unhide HBb).cell (i := 0) rfl
          have q1 := (unhide HBb).cell (i := 1) rfl
          have q2 := (unhide HBb).cell (i := 2) rfl
          have q3 := (unhide HBb).cell (i := 3) rfl
          have q4 := (unhide HBb).cell (i := 4) rfl
          have q5 := (unhide HBb).cell (i := 5) rfl
          have hb := Below.alloc1 X2 (.cells #[.int .i64 ax, .int .i64 ay, .int .i64 au, .int .i64 av, .int .i64 ak, .int .i64 ad, .int .i64 cx, .int .i64 cy, .int .i64 cu, .int .i64 cv, .int .i64 ck, .int .i64 cd] 25)
          have HO : OwnV (X2.alloc (.cells #[.int .i64 ax, .int .i64 ay, .int .i64 au, .int .i64 av, .int .i64 ak, .int .i64 ad, .int .i64 cx, .int .i64 cy, .int .i64 cu, .int .i64 cv, .int .i64 ck, .int .i64 cd] 25)) X2.heap.size (recCells 6 eShip [(ax, ay, au, av, ak, ad), (cx, cy, cu, cv, ck, cd)]) := by rw [recs_two]; exact ownV_alloc X2 _ _
          have QL := hide (implDuties_any _ [(ax, ay, au, av, ak, ad), (cx, cy, cu, cv, ck, cd)] _ (OwnV.recsIn (cap := 2) HO (Nat.le_refl _) (by unfold maxLen; omega)))
          rw [hsh, hrows] at QL
          replace HCc := hide ((unhide HCc).step hb)
          replace HDd := hide ((unhide HDd).step hb)
          replace HW := hide (Below.step (unhide HW) hb)
          clear hb
          clear HO hsh hrows
          go_wp2_with fail
          refine (unhide QL).mono ?_
          rintro e X3 ⟨ra, rn, rc, rfl, hrr, hb⟩
          replace HCc := hide ((unhide HCc).step hb)
          replace HDd := hide ((unhide HDd).step hb)
          replace HW := hide (Below.step (unhide HW) hb)
          clear hb
          clear p0 p1 p2 p3 p4 p5
          clear q0 q1 q2 q3 q4 q5
          clear QL
          rcases hrr with ⟨e9, _⟩ | ⟨g9, G9, C9, c9, e9, hl9, hm9, ho9⟩
          · cases e9
          simp only [Value.slice.injEq] at e9
          obtain ⟨rfl, rfl, rfl⟩ := e9
          unfold maxLen at hm9
          simp only [List.length_cons, List.length_nil] at hl9
          have HT0 := hide ((ho9.top).cell (tops_get G9 C9 [[0, 0], [0, 0]] (r := 0) (by simp)))
          have HT1 := hide ((ho9.top).cell (tops_get G9 C9 [[0, 0], [0, 0]] (r := 1) (by simp)))
          have HR0 : Hid (OwnV X3 (G9 0) [.int .i64 0, .int .i64 0]) := ho9.rows 0 (by simp)
          have HR1 : Hid (OwnV X3 (G9 1) [.int .i64 0, .int .i64 0]) := ho9.rows 1 (by simp)
          have HLT : Hid (g9 < X3.heap.size) := (ho9.top).lt
          have hc0 := (ho9.caps 0 (by simp)).1
          have hc1' := (ho9.caps 1 (by simp)).1
          clear ho9
          have c0 := (unhide HCc).cell (i := 0) rfl
          have c1 := (unhide HCc).cell (i := 1) rfl
          have c2 := (unhide HCc).cell (i := 2) rfl
          have c3 := (unhide HCc).cell (i := 3) rfl
          have c4 := (unhide HCc).cell (i := 4) rfl
          have c5 := (unhide HCc).cell (i := 5) rfl
          have d0 := (unhide HDd).cell (i := 0) rfl
          have d1 := (unhide HDd).cell (i := 1) rfl
          have d2 := (unhide HDd).cell (i := 2) rfl
          have d3 := (unhide HDd).cell (i := 3) rfl
          have d4 := (unhide HDd).cell (i := 4) rfl
          have d5 := (unhide HDd).cell (i := 5) rfl
          go_wp2_with fail
          refine (unhide QT _).mono ?_
          rintro e X4 ⟨rfl, hb⟩
          replace HT0 := hide (wcell3 (unhide HT0) hb)
          replace HT1 := hide (wcell3 (unhide HT1) hb)
          replace HR0 := hide ((unhide HR0).step hb)
          replace HR1 := hide ((unhide HR1).step hb)
          replace HCc := hide ((unhide HCc).step hb)
          replace HDd := hide ((unhide HDd).step hb)
          replace HW := hide (Below.step (unhide HW) hb)
          clear hb
          clear c0 c1 c2 c3 c4 c5
          clear d0 d1 d2 d3 d4 d5
          clear QT
          have c0 := (unhide HCc).cell (i := 0) rfl
          have c1 := (unhide HCc).cell (i := 1) rfl
          have c2 := (unhide HCc).cell (i := 2) rfl
          have c3 := (unhide HCc).cell (i := 3) rfl
          have c4 := (unhide HCc).cell (i := 4) rfl
          have c5 := (unhide HCc).cell (i := 5) rfl
          have d0 := (unhide HDd).cell (i := 0) rfl
          have d1 := (unhide HDd).cell (i := 1) rfl
          have d2 := (unhide HDd).cell (i := 2) rfl
          have d3 := (unhide HDd).cell (i := 3) rfl
          have d4 := (unhide HDd).cell (i := 4) rfl
          have d5 := (unhide HDd).cell (i := 5) rfl
          go_wp2_with fail
          refine (unhide QU _).mono ?_
          rintro e X5 ⟨rfl, hb⟩
          replace HT0 := hide (wcell3 (unhide HT0) hb)
          replace HT1 := hide (wcell3 (unhide HT1) hb)
          replace HR0 := hide ((unhide HR0).step hb)
          replace HR1 := hide ((unhide HR1).step hb)
          replace HCc := hide ((unhide HCc).step hb)
          replace HDd := hide ((unhide HDd).step hb)
          replace HW := hide (Below.step (unhide HW) hb)
          clear hb
          clear c0 c1 c2 c3 c4 c5
          clear d0 d1 d2 d3 d4 d5
          clear QU
          have t0 := unhide HT0
          have t1 := unhide HT1
          simp only [List.getD_cons_zero, List.getD_cons_succ, List.length_cons, List.length_nil] at t0 t1 hc0 hc1'
          have u0 := (unhide HR0).cell (i := 0) rfl
          have u1 := (unhide HR0).cell (i := 1) rfl
          have u2 := (unhide HR1).cell (i := 0) rfl
          go_wp2
          go_ret
          exact ⟨ret_bool (by simp), unhide HW⟩
  case inr.inr.inr =>
    clear HXY
    go_upto_region 14 with (fail)
    have hwg := (unhide HBb).lt
    have hwz := (unhide HW).size
    go_cut [7, 8] (fun s7 s8 wx => ∃ gc gd : Nat, s7 = .pointer (some ⟨gc, 0, none⟩) ∧ s8 = .pointer (some ⟨gd, 0, none⟩) ∧ gb < gc ∧ gb < gd ∧ gc ≠ gd ∧ Hid (OwnV wx gc [.int .i64 ax, .int .i64 ay, .int .i64 au, .int .i64 av, .int .i64 ak, .int .i64 ad]) ∧ Hid (OwnV wx gd [.int .i64 cx, .int .i64 cy, .int .i64 cu, .int .i64 cv, .int .i64 ck, .int .i64 cd]) ∧ Hid (OwnV wx ga [.int .i64 ax, .int .i64 ay, .int .i64 au, .int .i64 av, .int .i64 ak, .int .i64 ad]) ∧ Hid (OwnV wx gb [.int .i64 cx, .int .i64 cy, .int .i64 cu, .int .i64 cv, .int .i64 ck, .int .i64 cd]) ∧ Hid (Below w.heap.size w wx))
    case first =>
      have p0 := (unhide HAa).cell (i := 0) rfl
      have p1 := (unhide HAa).cell (i := 1) rfl
      have p2 := (unhide HAa).cell (i := 2) rfl
      have p3 := (unhide HAa).cell (i := 3) rfl
      have p4 := (unhide HAa).cell (i := 4) rfl
      have p5 := (unhide HAa).cell (i := 5) rfl
      have q0 := (unhide HBb).cell (i := 0) rfl
      have q1 := (unhide HBb).cell (i := 1) rfl
      have q2 := (unhide HBb).cell (i := 2) rfl
      have q3 := (unhide HBb).cell (i := 3) rfl
      have q4 := (unhide HBb).cell (i := 4) rfl
      have q5 := (unhide HBb).cell (i := 5) rfl
      have P0 : ∀ o1, (w6.alloc o1).cell? ⟨ga, 0, none⟩ = some (.int .i64 ax) := fun o1 => ((unhide HAa).step (Below.alloc1 w6 o1)).cell (i := 0) rfl
      have PP0 : ∀ o1 o2, ((w6.alloc o1).alloc o2).cell? ⟨ga, 0, none⟩ = some (.int .i64 ax) := fun o1 o2 => (((unhide HAa).step (Below.alloc1 w6 o1)).step (Below.alloc1 _ o2)).cell (i := 0) rfl
      have Q0 : ∀ o1, (w6.alloc o1).cell? ⟨gb, 0, none⟩ = some (.int .i64 cx) := fun o1 => ((unhide HBb).step (Below.alloc1 w6 o1)).cell (i := 0) rfl
      have QQ0 : ∀ o1 o2, ((w6.alloc o1).alloc o2).cell? ⟨gb, 0, none⟩ = some (.int .i64 cx) := fun o1 o2 => (((unhide HBb).step (Below.alloc1 w6 o1)).step (Below.alloc1 _ o2)).cell (i := 0) rfl
      have P1 : ∀ o1, (w6.alloc o1).cell? ⟨ga, 1, none⟩ = some (.int .i64 ay) := fun o1 => ((unhide HAa).step (Below.alloc1 w6 o1)).cell (i := 1) rfl
      have PP1 : ∀ o1 o2, ((w6.alloc o1).alloc o2).cell? ⟨ga, 1, none⟩ = some (.int .i64 ay) := fun o1 o2 => (((unhide HAa).step (Below.alloc1 w6 o1)).step (Below.alloc1 _ o2)).cell (i := 1) rfl
      have Q1 : ∀ o1, (w6.alloc o1).cell? ⟨gb, 1, none⟩ = some (.int .i64 cy) := fun o1 => ((unhide HBb).step (Below.alloc1 w6 o1)).cell (i := 1) rfl
      have QQ1 : ∀ o1 o2, ((w6.alloc o1).alloc o2).cell? ⟨gb, 1, none⟩ = some (.int .i64 cy) := fun o1 o2 => (((unhide HBb).step (Below.alloc1 w6 o1)).step (Below.alloc1 _ o2)).cell (i := 1) rfl
      have P2 : ∀ o1, (w6.alloc o1).cell? ⟨ga, 2, none⟩ = some (.int .i64 au) := fun o1 => ((unhide HAa).step (Below.alloc1 w6 o1)).cell (i := 2) rfl
      have PP2 : ∀ o1 o2, ((w6.alloc o1).alloc o2).cell? ⟨ga, 2, none⟩ = some (.int .i64 au) := fun o1 o2 => (((unhide HAa).step (Below.alloc1 w6 o1)).step (Below.alloc1 _ o2)).cell (i := 2) rfl
      have Q2 : ∀ o1, (w6.alloc o1).cell? ⟨gb, 2, none⟩ = some (.int .i64 cu) := fun o1 => ((unhide HBb).step (Below.alloc1 w6 o1)).cell (i := 2) rfl
      have QQ2 : ∀ o1 o2, ((w6.alloc o1).alloc o2).cell? ⟨gb, 2, none⟩ = some (.int .i64 cu) := fun o1 o2 => (((unhide HBb).step (Below.alloc1 w6 o1)).step (Below.alloc1 _ o2)).cell (i := 2) rfl
      have P3 : ∀ o1, (w6.alloc o1).cell? ⟨ga, 3, none⟩ = some (.int .i64 av) := fun o1 => ((unhide HAa).step (Below.alloc1 w6 o1)).cell (i := 3) rfl
      have PP3 : ∀ o1 o2, ((w6.alloc o1).alloc o2).cell? ⟨ga, 3, none⟩ = some (.int .i64 av) := fun o1 o2 => (((unhide HAa).step (Below.alloc1 w6 o1)).step (Below.alloc1 _ o2)).cell (i := 3) rfl
      have Q3 : ∀ o1, (w6.alloc o1).cell? ⟨gb, 3, none⟩ = some (.int .i64 cv) := fun o1 => ((unhide HBb).step (Below.alloc1 w6 o1)).cell (i := 3) rfl
      have QQ3 : ∀ o1 o2, ((w6.alloc o1).alloc o2).cell? ⟨gb, 3, none⟩ = some (.int .i64 cv) := fun o1 o2 => (((unhide HBb).step (Below.alloc1 w6 o1)).step (Below.alloc1 _ o2)).cell (i := 3) rfl
      have P4 : ∀ o1, (w6.alloc o1).cell? ⟨ga, 4, none⟩ = some (.int .i64 ak) := fun o1 => ((unhide HAa).step (Below.alloc1 w6 o1)).cell (i := 4) rfl
      have PP4 : ∀ o1 o2, ((w6.alloc o1).alloc o2).cell? ⟨ga, 4, none⟩ = some (.int .i64 ak) := fun o1 o2 => (((unhide HAa).step (Below.alloc1 w6 o1)).step (Below.alloc1 _ o2)).cell (i := 4) rfl
      have Q4 : ∀ o1, (w6.alloc o1).cell? ⟨gb, 4, none⟩ = some (.int .i64 ck) := fun o1 => ((unhide HBb).step (Below.alloc1 w6 o1)).cell (i := 4) rfl
      have QQ4 : ∀ o1 o2, ((w6.alloc o1).alloc o2).cell? ⟨gb, 4, none⟩ = some (.int .i64 ck) := fun o1 o2 => (((unhide HBb).step (Below.alloc1 w6 o1)).step (Below.alloc1 _ o2)).cell (i := 4) rfl
      have P5 : ∀ o1, (w6.alloc o1).cell? ⟨ga, 5, none⟩ = some (.int .i64 ad) := fun o1 => ((unhide HAa).step (Below.alloc1 w6 o1)).cell (i := 5) rfl
      have PP5 : ∀ o1 o2, ((w6.alloc o1).alloc o2).cell? ⟨ga, 5, none⟩ = some (.int .i64 ad) := fun o1 o2 => (((unhide HAa).step (Below.alloc1 w6 o1)).step (Below.alloc1 _ o2)).cell (i := 5) rfl
      have Q5 : ∀ o1, (w6.alloc o1).cell? ⟨gb, 5, none⟩ = some (.int .i64 cd) := fun o1 => ((unhide HBb).step (Below.alloc1 w6 o1)).cell (i := 5) rfl
      have QQ5 : ∀ o1 o2, ((w6.alloc o1).alloc o2).cell? ⟨gb, 5, none⟩ = some (.int .i64 cd) := fun o1 o2 => (((unhide HBb).step (Below.alloc1 w6 o1)).step (Below.alloc1 _ o2)).cell (i := 5) rfl
      go_region
      all_goals
        go_wp2_with fail
        go_meet
        first
          | exact ⟨w6.heap.size, w6.heap.size + 1, rfl, rfl, by omega, by omega, by omega, ((ownV_alloc w6 _ _).step (Below.alloc1 _ _)).step (Below.refl _ _).drew, (by have h9 := ownV_alloc (w6.alloc (.cells #[.int .i64 ax, .int .i64 ay, .int .i64 au, .int .i64 av, .int .i64 ak, .int .i64 ad] 25)) #[.int .i64 cx, .int .i64 cy, .int .i64 cu, .int .i64 cv, .int .i64 ck, .int .i64 cd] 25; rw [World.size_alloc] at h9; exact h9.step (Below.refl _ _).drew), (((unhide HAa).step (Below.alloc1 w6 _)).step (Below.alloc1 _ _)).step (Below.refl _ _).drew, (((unhide HBb).step (Below.alloc1 w6 _)).step (Below.alloc1 _ _)).step (Below.refl _ _).drew, Below.step (Below.step (Below.step (unhide HW) (Below.alloc1 w6 _)) (Below.alloc1 _ _)) (Below.refl _ _).drew⟩
          | exact ⟨w6.heap.size + 1, w6.heap.size, rfl, rfl, by omega, by omega, by omega, (by have h9 := ownV_alloc (w6.alloc (.cells #[.int .i64 cx, .int .i64 cy, .int .i64 cu, .int .i64 cv, .int .i64 ck, .int .i64 cd] 25)) #[.int .i64 ax, .int .i64 ay, .int .i64 au, .int .i64 av, .int .i64 ak, .int .i64 ad] 25; rw [World.size_alloc] at h9; exact h9.step (Below.refl _ _).drew), ((ownV_alloc w6 _ _).step (Below.alloc1 _ _)).step (Below.refl _ _).drew, (((unhide HAa).step (Below.alloc1 w6 _)).step (Below.alloc1 _ _)).step (Below.refl _ _).drew, (((unhide HBb).step (Below.alloc1 w6 _)).step (Below.alloc1 _ _)).step (Below.refl _ _).drew, Below.step (Below.step (Below.step (unhide HW) (Below.alloc1 w6 _)) (Below.alloc1 _ _)) (Below.refl _ _).drew⟩
    case rest =>
      clear HAa HBb HW hwg hwz
      obtain ⟨gc, gd, rfl, rfl, hc1, hd1, hcd, HCc, HDd, HAa, HBb, HW⟩ := hcut
      have hW0 := (unhide HW).size
      have hgaw : w.heap.size ≤ ga := hgaw0
      obtain ⟨EX, eEX⟩ : ∃ z, z = (-ay).tdiv 2 := ⟨_, rfl⟩
      have bEX : -100000 ≤ EX ∧ EX ≤ 100000 := by have := tdiv_absD (-ay) 2; omega
      have qEX : IntKind.i64.wrap ((-ay).tdiv 2) = EX := by rw [← eEX, IntKind.wrap_i64]; omega
      have rEX : (-ay).tdiv 2 = EX := eEX.symm
      obtain ⟨EY, eEY⟩ : ∃ z, z = ax.tdiv 2 := ⟨_, rfl⟩
      have bEY : -100000 ≤ EY ∧ EY ≤ 100000 := by have := tdiv_absD ax 2; omega
      have qEY : IntKind.i64.wrap (ax.tdiv 2) = EY := by rw [← eEY, IntKind.wrap_i64]; omega
      have rEY : ax.tdiv 2 = EY := eEY.symm
      obtain ⟨m1, em1⟩ : ∃ z, z = cy - ay := ⟨_, rfl⟩
      have bm1 : -200000 ≤ m1 ∧ m1 ≤ 200000 := by omega
      have qm1 : IntKind.i64.wrap (cy - ay) = m1 := by rw [← em1, IntKind.wrap_i64]; omega
      have rm1 : cy - ay = m1 := em1.symm
      obtain ⟨m2, em2⟩ : ∃ z, z = cx - ax := ⟨_, rfl⟩
      have bm2 : -200000 ≤ m2 ∧ m2 ≤ 200000 := by omega
      have qm2 : IntKind.i64.wrap (cx - ax) = m2 := by rw [← em2, IntKind.wrap_i64]; omega
      have rm2 : cx - ax = m2 := em2.symm
      obtain ⟨FX, eFX⟩ : ∃ z, z = EX - m1 := ⟨_, rfl⟩
      have bFX : -300000 ≤ FX ∧ FX ≤ 300000 := by omega
      have qFX : IntKind.i64.wrap (EX - m1) = FX := by rw [← eFX, IntKind.wrap_i64]; omega
      have rFX : EX - m1 = FX := eFX.symm
      obtain ⟨FY, eFY⟩ : ∃ z, z = EY + m2 := ⟨_, rfl⟩
      have bFY : -300000 ≤ FY ∧ FY ≤ 300000 := by omega
      have qFY : IntKind.i64.wrap (EY + m2) = FY := by rw [← eFY, IntKind.wrap_i64]; omega
      have rFY : EY + m2 = FY := eFY.symm
      have HFX : Hid (FX - EX = -(cy - ay)) := by show _ = _; omega
      have HFY : Hid (FY - EY = cx - ax) := by show _ = _; omega
      clear eEX eEY em1 em2 eFX eFY
      go_upto_region 15 with (fail)
      have lHAa1 := (unhide HAa).cell (i := 1) rfl
      have s9 := (unhide HCc).cell (i := 0) rfl
      have sf := (unhide HCc).frozen 0
      obtain ⟨Y0, eWn⟩ : ∃ Wq, Wq = wc.setCell ⟨gc, 0, none⟩ (.int .i64 (EX)) := ⟨_, rfl⟩
      have hkp := kept1 wc gc 0 (.int .i64 (EX))
      rw [← eWn] at hkp
      replace HCc : Hid (OwnV Y0 gc [.int .i64 (EX), .int .i64 ay, .int .i64 au, .int .i64 av, .int .i64 ak, .int .i64 ad]) := by show OwnV _ _ _; rw [eWn]; exact (unhide HCc).set 0 _ (by simp)
      replace HAa := hide ((unhide HAa).kept hkp (fun e => by have e : ga = gc := e; omega))
      replace HBb := hide ((unhide HBb).kept hkp (fun e => by have e : gb = gc := e; omega))
      replace HDd := hide ((unhide HDd).kept hkp (fun e => by have e : gd = gc := e; omega))
      have hwb := (unhide HW).size
      replace HW := hide ((unhide HW).trans (hkp.below hwb fun b e => by have e : b = gc := e; omega))
      go_upto_region 16 with (fail)
      rw [← eWn]
      clear eWn hkp hwb s9 sf lHAa1
      have lHAa0 := (unhide HAa).cell (i := 0) rfl
      have s9 := (unhide HCc).cell (i := 1) rfl
      have sf := (unhide HCc).frozen 1
      obtain ⟨Y1, eWn⟩ : ∃ Wq, Wq = Y0.setCell ⟨gc, 1, none⟩ (.int .i64 (EY)) := ⟨_, rfl⟩
      have hkp := kept1 Y0 gc 1 (.int .i64 (EY))
      rw [← eWn] at hkp
      replace HCc : Hid (OwnV Y1 gc [.int .i64 (EX), .int .i64 (EY), .int .i64 au, .int .i64 av, .int .i64 ak, .int .i64 ad]) := by show OwnV _ _ _; rw [eWn]; exact (unhide HCc).set 1 _ (by simp)
      replace HAa := hide ((unhide HAa).kept hkp (fun e => by have e : ga = gc := e; omega))
      replace HBb := hide ((unhide HBb).kept hkp (fun e => by have e : gb = gc := e; omega))
      replace HDd := hide ((unhide HDd).kept hkp (fun e => by have e : gd = gc := e; omega))
      have hwb := (unhide HW).size
      replace HW := hide ((unhide HW).trans (hkp.below hwb fun b e => by have e : b = gc := e; omega))
      go_upto_region 17 with (fail)
      rw [← eWn]
      clear eWn hkp hwb s9 sf lHAa0
      have lHCc0 := (unhide HCc).cell (i := 0) rfl
      have lHBb1 := (unhide HBb).cell (i := 1) rfl
      have lHAa1 := (unhide HAa).cell (i := 1) rfl
      have s9 := (unhide HDd).cell (i := 0) rfl
      have sf := (unhide HDd).frozen 0
      obtain ⟨Y2, eWn⟩ : ∃ Wq, Wq = Y1.setCell ⟨gd, 0, none⟩ (.int .i64 (FX)) := ⟨_, rfl⟩
      have hkp := kept1 Y1 gd 0 (.int .i64 (FX))
      rw [← eWn] at hkp
      replace HDd : Hid (OwnV Y2 gd [.int .i64 (FX), .int .i64 cy, .int .i64 cu, .int .i64 cv, .int .i64 ck, .int .i64 cd]) := by show OwnV _ _ _; rw [eWn]; exact (unhide HDd).set 0 _ (by simp)
      replace HAa := hide ((unhide HAa).kept hkp (fun e => by have e : ga = gd := e; omega))
      replace HBb := hide ((unhide HBb).kept hkp (fun e => by have e : gb = gd := e; omega))
      replace HCc := hide ((unhide HCc).kept hkp (fun e => by have e : gc = gd := e; omega))
      have hwb := (unhide HW).size
      replace HW := hide ((unhide HW).trans (hkp.below hwb fun b e => by have e : b = gd := e; omega))
      go_upto_region 18 with (fail)
      rw [← eWn]
      clear eWn hkp hwb s9 sf lHCc0 lHBb1 lHAa1
      have lHCc1 := (unhide HCc).cell (i := 1) rfl
      have lHBb0 := (unhide HBb).cell (i := 0) rfl
      have lHAa0 := (unhide HAa).cell (i := 0) rfl
      have s9 := (unhide HDd).cell (i := 1) rfl
      have sf := (unhide HDd).frozen 1
      obtain ⟨Y3, eWn⟩ : ∃ Wq, Wq = Y2.setCell ⟨gd, 1, none⟩ (.int .i64 (FY)) := ⟨_, rfl⟩
      have hkp := kept1 Y2 gd 1 (.int .i64 (FY))
      rw [← eWn] at hkp
      replace HDd : Hid (OwnV Y3 gd [.int .i64 (FX), .int .i64 (FY), .int .i64 cu, .int .i64 cv, .int .i64 ck, .int .i64 cd]) := by show OwnV _ _ _; rw [eWn]; exact (unhide HDd).set 1 _ (by simp)
      replace HAa := hide ((unhide HAa).kept hkp (fun e => by have e : ga = gd := e; omega))
      replace HBb := hide ((unhide HBb).kept hkp (fun e => by have e : gb = gd := e; omega))
      replace HCc := hide ((unhide HCc).kept hkp (fun e => by have e : gc = gd := e; omega))
      have hwb := (unhide HW).size
      replace HW := hide ((unhide HW).trans (hkp.below hwb fun b e => by have e : b = gd := e; omega))
      go_upto_region 19 with (fail)
      rw [← eWn]
      clear eWn hkp hwb s9 sf lHCc1 lHBb0 lHAa0
      have lHAa3 := (unhide HAa).cell (i := 3) rfl
      have s9 := (unhide HCc).cell (i := 2) rfl
      have sf := (unhide HCc).frozen 2
      obtain ⟨Y4, eWn⟩ : ∃ Wq, Wq = Y3.setCell ⟨gc, 2, none⟩ (.int .i64 (-av)) := ⟨_, rfl⟩
      have hkp := kept1 Y3 gc 2 (.int .i64 (-av))
      rw [← eWn] at hkp
      replace HCc : Hid (OwnV Y4 gc [.int .i64 (EX), .int .i64 (EY), .int .i64 (-av), .int .i64 av, .int .i64 ak, .int .i64 ad]) := by show OwnV _ _ _; rw [eWn]; exact (unhide HCc).set 2 _ (by simp)
      replace HAa := hide ((unhide HAa).kept hkp (fun e => by have e : ga = gc := e; omega))
      replace HBb := hide ((unhide HBb).kept hkp (fun e => by have e : gb = gc := e; omega))
      replace HDd := hide ((unhide HDd).kept hkp (fun e => by have e : gd = gc := e; omega))
      have hwb := (unhide HW).size
      replace HW := hide ((unhide HW).trans (hkp.below hwb fun b e => by have e : b = gc := e; omega))
      go_upto_region 20 with (fail)
      rw [← eWn]
      clear eWn hkp hwb s9 sf lHAa3
      have lHAa2 := (unhide HAa).cell (i := 2) rfl
      have s9 := (unhide HCc).cell (i := 3) rfl
      have sf := (unhide HCc).frozen 3
      obtain ⟨Y5, eWn⟩ : ∃ Wq, Wq = Y4.setCell ⟨gc, 3, none⟩ (.int .i64 (au)) := ⟨_, rfl⟩
      have hkp := kept1 Y4 gc 3 (.int .i64 (au))
      rw [← eWn] at hkp
      replace HCc : Hid (OwnV Y5 gc [.int .i64 (EX), .int .i64 (EY), .int .i64 (-av), .int .i64 (au), .int .i64 ak, .int .i64 ad]) := by show OwnV _ _ _; rw [eWn]; exact (unhide HCc).set 3 _ (by simp)
      replace HAa := hide ((unhide HAa).kept hkp (fun e => by have e : ga = gc := e; omega))
      replace HBb := hide ((unhide HBb).kept hkp (fun e => by have e : gb = gc := e; omega))
      replace HDd := hide ((unhide HDd).kept hkp (fun e => by have e : gd = gc := e; omega))
      have hwb := (unhide HW).size
      replace HW := hide ((unhide HW).trans (hkp.below hwb fun b e => by have e : b = gc := e; omega))
      go_upto_region 21 with (fail)
      rw [← eWn]
      clear eWn hkp hwb s9 sf lHAa2
      have lHBb3 := (unhide HBb).cell (i := 3) rfl
      have s9 := (unhide HDd).cell (i := 2) rfl
      have sf := (unhide HDd).frozen 2
      obtain ⟨Y6, eWn⟩ : ∃ Wq, Wq = Y5.setCell ⟨gd, 2, none⟩ (.int .i64 (-cv)) := ⟨_, rfl⟩
      have hkp := kept1 Y5 gd 2 (.int .i64 (-cv))
      rw [← eWn] at hkp
      replace HDd : Hid (OwnV Y6 gd [.int .i64 (FX), .int .i64 (FY), .int .i64 (-cv), .int .i64 cv, .int .i64 ck, .int .i64 cd]) := by show OwnV _ _ _; rw [eWn]; exact (unhide HDd).set 2 _ (by simp)
      replace HAa := hide ((unhide HAa).kept hkp (fun e => by have e : ga = gd := e; omega))
      replace HBb := hide ((unhide HBb).kept hkp (fun e => by have e : gb = gd := e; omega))
      replace HCc := hide ((unhide HCc).kept hkp (fun e => by have e : gc = gd := e; omega))
      have hwb := (unhide HW).size
      replace HW := hide ((unhide HW).trans (hkp.below hwb fun b e => by have e : b = gd := e; omega))
      go_upto_region 22 with (fail)
      rw [← eWn]
      clear eWn hkp hwb s9 sf lHBb3
      have lHBb2 := (unhide HBb).cell (i := 2) rfl
      have s9 := (unhide HDd).cell (i := 3) rfl
      have sf := (unhide HDd).frozen 3
      obtain ⟨Y7, eWn⟩ : ∃ Wq, Wq = Y6.setCell ⟨gd, 3, none⟩ (.int .i64 (cu)) := ⟨_, rfl⟩
      have hkp := kept1 Y6 gd 3 (.int .i64 (cu))
      rw [← eWn] at hkp
      replace HDd : Hid (OwnV Y7 gd [.int .i64 (FX), .int .i64 (FY), .int .i64 (-cv), .int .i64 (cu), .int .i64 ck, .int .i64 cd]) := by show OwnV _ _ _; rw [eWn]; exact (unhide HDd).set 3 _ (by simp)
      replace HAa := hide ((unhide HAa).kept hkp (fun e => by have e : ga = gd := e; omega))
      replace HBb := hide ((unhide HBb).kept hkp (fun e => by have e : gb = gd := e; omega))
      replace HCc := hide ((unhide HCc).kept hkp (fun e => by have e : gc = gd := e; omega))
      have hwb := (unhide HW).size
      replace HW := hide ((unhide HW).trans (hkp.below hwb fun b e => by have e : b = gd := e; omega))
      go_upto_region 23 with (fail)
      rw [← eWn]
      clear eWn hkp hwb s9 sf lHBb2
      clear qEX qEY qm1 qm2 qFX qFY rEX rEY rm1 rm2 rFX rFY
      have SC := hide fun W => specShipOk_any (EX) (EY) (-av) (au) (ak) (ad) W
      have SD := hide fun W => specShipOk_any (FX) (FY) (-cv) (cu) (ck) (cd) W
      have IA := hide fun W => implShipOk_any ax ay au av ak ad W
      have IB := hide fun W => implShipOk_any cx cy cu cv ck cd W
      rw [unhide HSA] at IA
      rw [unhide HSB] at IB
      unfold vShip at SC SD IA IB
      have c0 := (unhide HCc).cell (i := 0) rfl
      have c1 := (unhide HCc).cell (i := 1) rfl
      have c2 := (unhide HCc).cell (i := 2) rfl
      have c3 := (unhide HCc).cell (i := 3) rfl
      have c4 := (unhide HCc).cell (i := 4) rfl
      have c5 := (unhide HCc).cell (i := 5) rfl
      cases hsc : shipB (EX) (EY) (-av) (au) (ak) (ad) with
      | false =>
        rw [hsc] at SC
        go_wp2_with fail
        refine (unhide SC _).mono ?_
        rintro e X1 ⟨rfl, hb⟩
        replace HAa := hide ((unhide HAa).step hb)
        replace HBb := hide ((unhide HBb).step hb)
        replace HW := hide (Below.step (unhide HW) hb)
        clear hb
        clear c0 c1 c2 c3 c4 c5
        have p0 := (unhide HAa).cell (i := 0) rfl
        have p1 := (unhide HAa).cell (i := 1) rfl
        have p2 := (unhide HAa).cell (i := 2) rfl
        have p3 := (unhide HAa).cell (i := 3) rfl
        have p4 := (unhide HAa).cell (i := 4) rfl
        have p5 := (unhide HAa).cell (i := 5) rfl
        go_upto_region 24 with (fail)
        go_wp2_with fail
        refine (unhide IA _).mono ?_
        rintro e Z1 ⟨rfl, hb⟩
        replace HBb := hide ((unhide HBb).step hb)
        replace HW := hide (Below.step (unhide HW) hb)
        clear hb
        clear p0 p1 p2 p3 p4 p5
        have q0 := (unhide HBb).cell (i := 0) rfl
        have q1 := (unhide HBb).cell (i := 1) rfl
        have q2 := (unhide HBb).cell (i := 2) rfl
        have q3 := (unhide HBb).cell (i := 3) rfl
        have q4 := (unhide HBb).cell (i := 4) rfl
        have q5 := (unhide HBb).cell (i := 5) rfl
        go_wp2_with fail
        refine (unhide IB _).mono ?_
        rintro e Z2 ⟨rfl, hb⟩
        replace HW := hide (Below.step (unhide HW) hb)
        clear hb
        clear q0 q1 q2 q3 q4 q5
        go_wp2
        go_ret
        exact ⟨ret_bool (by simp), unhide HW⟩
      | true =>
        rw [hsc] at SC
        go_wp2_with fail
        refine (unhide SC _).mono ?_
        rintro e X1 ⟨rfl, hb⟩
        replace HAa := hide ((unhide HAa).step hb)
        replace HBb := hide ((unhide HBb).step hb)
        replace HCc := hide ((unhide HCc).step hb)
        replace HDd := hide ((unhide HDd).step hb)
        replace HW := hide (Below.step (unhide HW) hb)
        clear hb
        clear c0 c1 c2 c3 c4 c5
        have d0 := (unhide HDd).cell (i := 0) rfl
        have d1 := (unhide HDd).cell (i := 1) rfl
        have d2 := (unhide HDd).cell (i := 2) rfl
        have d3 := (unhide HDd).cell (i := 3) rfl
        have d4 := (unhide HDd).cell (i := 4) rfl
        have d5 := (unhide HDd).cell (i := 5) rfl
        cases hsd : shipB (FX) (FY) (-cv) (cu) (ck) (cd) with
        | false =>
          rw [hsd] at SD
          go_wp2_with fail
          refine (unhide SD _).mono ?_
          rintro e X2 ⟨rfl, hb⟩
          replace HAa := hide ((unhide HAa).step hb)
          replace HBb := hide ((unhide HBb).step hb)
          replace HW := hide (Below.step (unhide HW) hb)
          clear hb
          clear d0 d1 d2 d3 d4 d5
          have p0 := (unhide HAa).cell (i := 0) rfl
          have p1 := (unhide HAa).cell (i := 1) rfl
          have p2 := (unhide HAa).cell (i := 2) rfl
          have p3 := (unhide HAa).cell (i := 3) rfl
          have p4 := (unhide HAa).cell (i := 4) rfl
          have p5 := (unhide HAa).cell (i := 5) rfl
          go_upto_region 24 with (fail)
          go_wp2_with fail
          refine (unhide IA _).mono ?_
          rintro e Z1 ⟨rfl, hb⟩
          replace HBb := hide ((unhide HBb).step hb)
          replace HW := hide (Below.step (unhide HW) hb)
          clear hb
          clear p0 p1 p2 p3 p4 p5
          have q0 := (unhide HBb).cell (i := 0) rfl
          have q1 := (unhide HBb).cell (i := 1) rfl
          have q2 := (unhide HBb).cell (i := 2) rfl
          have q3 := (unhide HBb).cell (i := 3) rfl
          have q4 := (unhide HBb).cell (i := 4) rfl
          have q5 := (unhide HBb).cell (i := 5) rfl
          go_wp2_with fail
          refine (unhide IB _).mono ?_
          rintro e Z2 ⟨rfl, hb⟩
          replace HW := hide (Below.step (unhide HW) hb)
          clear hb
          clear q0 q1 q2 q3 q4 q5
          go_wp2
          go_ret
          exact ⟨ret_bool (by simp), unhide HW⟩
        | true =>
          rw [hsd] at SD
          go_wp2_with fail
          refine (unhide SD _).mono ?_
          rintro e X2 ⟨rfl, hb⟩
          replace HAa := hide ((unhide HAa).step hb)
          replace HBb := hide ((unhide HBb).step hb)
          replace HCc := hide ((unhide HCc).step hb)
          replace HDd := hide ((unhide HDd).step hb)
          replace HW := hide (Below.step (unhide HW) hb)
          clear hb
          clear d0 d1 d2 d3 d4 d5
          have QT := hide fun W => implDuty_any (EX) (EY) (-av) (au) (ak) (ad) (FX) (FY) (-cv) (cu) (ck) (cd) W
          have QU := hide fun W => implDuty_any (FX) (FY) (-cv) (cu) (ck) (cd) (EX) (EY) (-av) (au) (ak) (ad) W
          rw [duty_turn (unhide HSA) (unhide HSB) hsc hsd (unhide HFX) (unhide HFY), ← unhide HEX] at QT
          rw [duty_turn (unhide HSB) (unhide HSA) hsd hsc (by have := unhide HFX; omega) (by have := unhide HFY; omega), ← unhide HEY] at QU
          unfold vShip at QT QU
          have hsh : shipsB [(ax, ay, au, av, ak, ad), (cx, cy, cu, cv, ck, cd)] = true := by unfold shipsB; simp [okT, unhide HSA, unhide HSB]
          have hrows : dutiesR [(ax, ay, au, av, ak, ad), (cx, cy, cu, cv, ck, cd)] = [[0, 3], [3, 0]] := by unfold dutiesR; rw [hsh]; show dutRows [(ax, ay, au, av, ak, ad), (cx, cy, cu, cv, ck, cd)] = _; rw [show dutRows [(ax, ay, au, av, ak, ad), (cx, cy, cu, cv, ck, cd)] = [[0, duty ax ay au av ak ad cx cy cu cv ck cd], [duty cx cy cu cv ck cd ax ay au av ak ad, 0]] from rfl, ← unhide HEX, ← unhide HEY]
          clear hsc hsd
          have p0 := (unhide HAa).cell (i := 0) rfl
          have p1 := (unhide HAa).cell (i := 1) rfl
          have p2 := (unhide HAa).cell (i := 2) rfl
          have p3 := (unhide HAa).cell (i := 3) rfl
          have p4 := (unhide HAa).cell (i := 4) rfl
          have p5 := (unhide HAa).cell (i := 5) rfl
          have q0 := (unhide HBb).cell (i := 0) rfl
          have q1 := (unhide HBb).cell (i := 1) rfl
          have q2 := (unhide HBb).cell (i := 2) rfl
          have q3 := (unhide HBb).cell (i := 3) rfl
          have q4 := (unhide HBb).cell (i := 4) rfl
          have q5 := (unhide HBb).cell (i := 5) rfl
          have hb := Below.alloc1 X2 (.cells #[.int .i64 ax, .int .i64 ay, .int .i64 au, .int .i64 av, .int .i64 ak, .int .i64 ad, .int .i64 cx, .int .i64 cy, .int .i64 cu, .int .i64 cv, .int .i64 ck, .int .i64 cd] 25)
          have HO : OwnV (X2.alloc (.cells #[.int .i64 ax, .int .i64 ay, .int .i64 au, .int .i64 av, .int .i64 ak, .int .i64 ad, .int .i64 cx, .int .i64 cy, .int .i64 cu, .int .i64 cv, .int .i64 ck, .int .i64 cd] 25)) X2.heap.size (recCells 6 eShip [(ax, ay, au, av, ak, ad), (cx, cy, cu, cv, ck, cd)]) := by rw [recs_two]; exact ownV_alloc X2 _ _
          have QL := hide (implDuties_any _ [(ax, ay, au, av, ak, ad), (cx, cy, cu, cv, ck, cd)] _ (OwnV.recsIn (cap := 2) HO (Nat.le_refl _) (by unfold maxLen; omega)))
          rw [hsh, hrows] at QL
          replace HCc := hide ((unhide HCc).step hb)
          replace HDd := hide ((unhide HDd).step hb)
          replace HW := hide (Below.step (unhide HW) hb)
          clear hb
          clear HO hsh hrows
          go_wp2_with fail
          refine (unhide QL).mono ?_
          rintro e X3 ⟨ra, rn, rc, rfl, hrr, hb⟩
          replace HCc := hide ((unhide HCc).step hb)
          replace HDd := hide ((unhide HDd).step hb)
          replace HW := hide (Below.step (unhide HW) hb)
          clear hb
          clear p0 p1 p2 p3 p4 p5
          clear q0 q1 q2 q3 q4 q5
          clear QL
          rcases hrr with ⟨e9, _⟩ | ⟨g9, G9, C9, c9, e9, hl9, hm9, ho9⟩
          · cases e9
          simp only [Value.slice.injEq] at e9
          obtain ⟨rfl, rfl, rfl⟩ := e9
          unfold maxLen at hm9
          simp only [List.length_cons, List.length_nil] at hl9
          have HT0 := hide ((ho9.top).cell (tops_get G9 C9 [[0, 3], [3, 0]] (r := 0) (by simp)))
          have HT1 := hide ((ho9.top).cell (tops_get G9 C9 [[0, 3], [3, 0]] (r := 1) (by simp)))
          have HR0 : Hid (OwnV X3 (G9 0) [.int .i64 0, .int .i64 3]) := ho9.rows 0 (by simp)
          have HR1 : Hid (OwnV X3 (G9 1) [.int .i64 3, .int .i64 0]) := ho9.rows 1 (by simp)
          have HLT : Hid (g9 < X3.heap.size) := (ho9.top).lt
          have hc0 := (ho9.caps 0 (by simp)).1
          have hc1' := (ho9.caps 1 (by simp)).1
          clear ho9
          have c0 := (unhide HCc).cell (i := 0) rfl
          have c1 := (unhide HCc).cell (i := 1) rfl
          have c2 := (unhide HCc).cell (i := 2) rfl
          have c3 := (unhide HCc).cell (i := 3) rfl
          have c4 := (unhide HCc).cell (i := 4) rfl
          have c5 := (unhide HCc).cell (i := 5) rfl
          have d0 := (unhide HDd).cell (i := 0) rfl
          have d1 := (unhide HDd).cell (i := 1) rfl
          have d2 := (unhide HDd).cell (i := 2) rfl
          have d3 := (unhide HDd).cell (i := 3) rfl
          have d4 := (unhide HDd).cell (i := 4) rfl
          have d5 := (unhide HDd).cell (i := 5) rfl
          go_wp2_with fail
          refine (unhide QT _).mono ?_
          rintro e X4 ⟨rfl, hb⟩
          replace HT0 := hide (wcell3 (unhide HT0) hb)
          replace HT1 := hide (wcell3 (unhide HT1) hb)
          replace HR0 := hide ((unhide HR0).step hb)
          replace HR1 := hide ((unhide HR1).step hb)
          replace HCc := hide ((unhide HCc).step hb)
          replace HDd := hide ((unhide HDd).step hb)
          replace HW := hide (Below.step (unhide HW) hb)
          clear hb
          clear c0 c1 c2 c3 c4 c5
          clear d0 d1 d2 d3 d4 d5
          clear QT
          have c0 := (unhide HCc).cell (i := 0) rfl
          have c1 := (unhide HCc).cell (i := 1) rfl
          have c2 := (unhide HCc).cell (i := 2) rfl
          have c3 := (unhide HCc).cell (i := 3) rfl
          have c4 := (unhide HCc).cell (i := 4) rfl
          have c5 := (unhide HCc).cell (i := 5) rfl
          have d0 := (unhide HDd).cell (i := 0) rfl
          have d1 := (unhide HDd).cell (i := 1) rfl
          have d2 := (unhide HDd).cell (i := 2) rfl
          have d3 := (unhide HDd).cell (i := 3) rfl
          have d4 := (unhide HDd).cell (i := 4) rfl
          have d5 := (unhide HDd).cell (i := 5) rfl
          go_wp2_with fail
          refine (unhide QU _).mono ?_
          rintro e X5 ⟨rfl, hb⟩
          replace HT0 := hide (wcell3 (unhide HT0) hb)
          replace HT1 := hide (wcell3 (unhide HT1) hb)
          replace HR0 := hide ((unhide HR0).step hb)
          replace HR1 := hide ((unhide HR1).step hb)
          replace HCc := hide ((unhide HCc).step hb)
          replace HDd := hide ((unhide HDd).step hb)
          replace HW := hide (Below.step (unhide HW) hb)
          clear hb
          clear c0 c1 c2 c3 c4 c5
          clear d0 d1 d2 d3 d4 d5
          clear QU
          have t0 := unhide HT0
          have t1 := unhide HT1
          simp only [List.getD_cons_zero, List.getD_cons_succ, List.length_cons, List.length_nil] at t0 t1 hc0 hc1'
          have u0 := (unhide HR0).cell (i := 0) rfl
          have u1 := (unhide HR0).cell (i := 1) rfl
          have u2 := (unhide HR1).cell (i := 0) rfl
          go_wp2
          go_ret
          exact ⟨ret_bool (by simp), unhide HW⟩

end Go.Proofs.Ytcljgaofpeaplaa

/- FnClosest, walked: the square told is at most that of now and of the next minutes. Written by wip/mkfcl.py. -/
import Derived.Test.YtcljgaofpeaplaaClL
import Derived.Test.YtcljgaofpeaplaaClE
import Derived.Test.YtcljgaofpeaplaaAtBig
namespace Go.Proofs.Ytcljgaofpeaplaa
open Go.RowKit

theorem ship_bd {x y u v k d : Int} (h : shipB x y u v k d = true) : (-100000 ≤ x ∧ x ≤ 100000) ∧ (-100000 ≤ y ∧ y ≤ 100000) ∧ (-1000 ≤ u ∧ u ≤ 1000) ∧ (-1000 ≤ v ∧ v ≤ 1000) ∧ (u != 0 || v != 0) = true ∧ (1 ≤ k ∧ k ≤ 5) := by
  unfold shipB at h
  simp only [Bool.and_eq_true] at h
  obtain ⟨⟨⟨⟨⟨⟨h1, h2⟩, h3⟩, h4⟩, h5⟩, h6⟩, h7⟩ := h
  exact ⟨inB_true h1, inB_true h2, inB_true h3, inB_true h4, h5, inB_true h6⟩
theorem ship_mk {x y u v k : Int} (h1 : -100000 ≤ x ∧ x ≤ 100000) (h2 : -100000 ≤ y ∧ y ≤ 100000) (h3 : -1000 ≤ u ∧ u ≤ 1000) (h4 : -1000 ≤ v ∧ v ≤ 1000) (h5 : (u != 0 || v != 0) = true) (h6 : 1 ≤ k ∧ k ≤ 5) {d : Int} (h7 : 0 ≤ d ∧ d ≤ 1000) : shipB x y u v k d = true := by
  unfold shipB
  rw [inB_mk h1.1 h1.2, inB_mk h2.1 h2.2, inB_mk h3.1 h3.2, inB_mk h4.1 h4.2, h5, inB_mk h6.1 h6.2, inB_mk h7.1 h7.2]
  rfl
/-- Where a ship that is right comes to no right place. -/
theorem mov_zero {x y u v k d m : Int} (h : shipB x y u v k d = true) (hm : 0 ≤ m ∧ m ≤ 100) : shipB (x + m * u) (y + m * v) u v k 0 = movB x y u v k d m := by
  obtain ⟨_, _, h3, h4, h5, h6⟩ := ship_bd h
  have hd : 0 ≤ d ∧ d ≤ 1000 := by
    unfold shipB at h
    simp only [Bool.and_eq_true] at h
    exact inB_true h.2
  have e : movB x y u v k d m = shipB (x + m * u) (y + m * v) u v k d := by
    unfold movB
    rw [h, inB_mk hm.1 hm.2, Bool.true_and, Bool.true_and, Int.mul_comm u m, Int.mul_comm v m]
  rw [e, Bool.eq_iff_iff]
  constructor
  · intro h9
    obtain ⟨g1, g2, _⟩ := ship_bd h9
    exact ship_mk g1 g2 h3 h4 h5 h6 hd
  · intro h9
    obtain ⟨g1, g2, _⟩ := ship_bd h9
    exact ship_mk g1 g2 h3 h4 h5 h6 (by omega)
theorem mov_at {x y u v k d m : Int} (h : movB x y u v k d m = true) : (-100000 ≤ x + u * m ∧ x + u * m ≤ 100000) ∧ (-100000 ≤ y + v * m ∧ y + v * m ≤ 100000) := by
  unfold movB at h
  simp only [Bool.and_eq_true] at h
  obtain ⟨g1, g2, _⟩ := ship_bd h.2.2
  exact ⟨g1, g2⟩
theorem prod5 {m u : Int} (hm : 0 ≤ m ∧ m ≤ 5) (hu : -1000 ≤ u ∧ u ≤ 1000) : -5000 ≤ m * u ∧ m * u ≤ 5000 := by
  have : m = 0 ∨ m = 1 ∨ m = 2 ∨ m = 3 ∨ m = 4 ∨ m = 5 := by omega
  rcases this with e | e | e | e | e | e <;> subst e <;> omega

set_option maxRecDepth 100000 in
set_option maxHeartbeats 16000000 in
theorem fnClosest_any (v : Value) (nb : Nat) (w : World) (h : BytesIn w.heap.size w v nb) :
    Calls Try.prog 4 #[v] w fun e w' => e = .returned (.bool true) ∧ Below w.heap.size w w' := by
  have HB := hide h
  obtain ⟨vao, vcap, rfl, hvl, hvm, _⟩ := h
  unfold maxLen at hvm
  have Q0 := hide fun W => big_any vao nb vcap W
  by_cases hbig : 1048576 < nb
  · have d0 : decide ((1048576 : Int) < (nb : Int)) = true := by simp; omega
    rw [d0] at Q0
    go_enter Try.func4, Try.ntmps4
    go_wp2_with fail
    refine (unhide Q0 _).mono ?_
    rintro e w' ⟨rfl, rfl⟩
    go_wp2
    go_ret
    exact ⟨rfl, Below.refl _ _⟩
  have d0 : decide ((1048576 : Int) < (nb : Int)) = false := by simp; omega
  rw [d0] at Q0
  have Q1 := hide fun W (hW : BytesIn W.heap.size W (.slice vao nb vcap) nb) => drawRightShips_any (.slice vao nb vcap) nb W hW (by omega)
  go_enter Try.func4, Try.ntmps4
  go_wp2_with fail
  refine (unhide Q0 _).mono ?_
  rintro e w' ⟨rfl, rfl⟩
  go_wp2_with fail
  refine (unhide Q1 _ (unhide HB)).mono ?_
  rintro e WD ⟨ax, ay, au, av, ak, ad, cx, cy, cu, cv, ck, cd, rfl, hsa, hsb, hbw⟩
  obtain ⟨a1, a2, a3, a4, -, -⟩ := ship_bd hsa
  obtain ⟨b1, b2, b3, b4, -, -⟩ := ship_bd hsb
  have hcl : clsB ax ay au av ak ad cx cy cu cv ck cd = true := by unfold clsB; rw [hsa, hsb]; rfl
  have hP := cl_P (p := cx - ax) (q := cy - ay) (r := cu - au) (s := cv - av) (by omega) (by omega) (by omega) (by omega)
  have QC := hide fun W => implClosest_any ax ay au av ak ad cx cy cu cv ck cd W
  have eT : clsT ax ay au av ak ad cx cy cu cv ck cd = clT (cx - ax) (cy - ay) (cu - au) (cv - av) := by unfold clsT; rw [hcl]; rfl
  have eF : clsF ax ay au av ak ad cx cy cu cv ck cd = clF (cx - ax) (cy - ay) (cu - au) (cv - av) := by unfold clsF; rw [hcl]; rfl
  rw [eT, eF, hcl] at QC
  obtain ⟨⟨T1, T2⟩, eTT⟩ : ∃ t : I2, t = clT (cx - ax) (cy - ay) (cu - au) (cv - av) := ⟨_, rfl⟩
  obtain ⟨⟨F1, F2⟩, eFF⟩ : ∃ t : I2, t = clF (cx - ax) (cy - ay) (cu - au) (cv - av) := ⟨_, rfl⟩
  rw [← eTT, ← eFF] at QC hP
  have t1 : 0 ≤ T1 := hP.t1
  have t2 : 1 ≤ T2 := hP.t2
  have f1 : 0 ≤ F1 ∧ F1 ≤ 1000000000000000000 := hP.f1
  have f2 : 1 ≤ F2 ∧ F2 ≤ 10000000 := hP.f2
  have HLE : Hid (∀ m, 0 ≤ m → F1 ≤ (((cx - ax) + (cu - au) * m) * ((cx - ax) + (cu - au) * m) + ((cy - ay) + (cv - av) * m) * ((cy - ay) + (cv - av) * m)) * F2) := hP.le
  have HSA := hide hsa
  have HSB := hide hsb
  have HBW := hide hbw
  clear hsa hsb hcl hP eT eF eTT eFF hbw Q0 Q1 d0 hbig hvl hvm HB
  have QMA := hide fun W m => implMoved_any ax ay au av ak ad m W
  have QMB := hide fun W m => implMoved_any cx cy cu cv ck cd m W
  unfold vShip at QC QMA QMB ⊢
  unfold v2 at QC
  obtain ⟨ga, ega⟩ : ∃ q, q = WD.heap.size := ⟨_, rfl⟩
  obtain ⟨gb, egb⟩ : ∃ q, q = WD.heap.size + 1 := ⟨_, rfl⟩
  have hab : ga < gb := by omega
  obtain ⟨V4, eV4⟩ : ∃ Vq, Vq = WD.alloc (.cells #[.int .i64 ax, .int .i64 ay, .int .i64 au, .int .i64 av, .int .i64 ak, .int .i64 ad] 25) := ⟨_, rfl⟩
  have hA4 : Below WD.heap.size WD V4 := by rw [eV4]; exact Below.alloc1 _ _
  have hs4 : V4.heap.size = WD.heap.size + 1 := by rw [eV4, World.size_alloc]
  have HAa : Hid (OwnV V4 ga [.int .i64 ax, .int .i64 ay, .int .i64 au, .int .i64 av, .int .i64 ak, .int .i64 ad]) := by show OwnV _ _ _; rw [eV4, ega]; exact ownV_alloc _ _ _
  obtain ⟨V5, eV5⟩ : ∃ Vq, Vq = V4.alloc (.cells #[.int .i64 cx, .int .i64 cy, .int .i64 cu, .int .i64 cv, .int .i64 ck, .int .i64 cd] 25) := ⟨_, rfl⟩
  have hA5 : Below V4.heap.size V4 V5 := by rw [eV5]; exact Below.alloc1 _ _
  have HBb : Hid (OwnV V5 gb [.int .i64 cx, .int .i64 cy, .int .i64 cu, .int .i64 cv, .int .i64 ck, .int .i64 cd]) := by show OwnV _ _ _; rw [eV5, egb, ← hs4]; exact ownV_alloc _ _ _
  replace HAa := hide ((unhide HAa).step hA5)
  have HW := hide (Below.step (unhide HBW) (Below.step hA4 hA5))
  go_upto_region 4 with (fail)
  rw [← eV4, ← eV5, ← egb, ← ega]
  clear eV4 eV5 ega egb hA4 hA5 hs4
  have p0 := (unhide HAa).cell (i := 0) rfl
  have p1 := (unhide HAa).cell (i := 1) rfl
  have p2 := (unhide HAa).cell (i := 2) rfl
  have p3 := (unhide HAa).cell (i := 3) rfl
  have p4 := (unhide HAa).cell (i := 4) rfl
  have p5 := (unhide HAa).cell (i := 5) rfl
  have q0 := (unhide HBb).cell (i := 0) rfl
  have q1 := (unhide HBb).cell (i := 1) rfl
  have q2 := (unhide HBb).cell (i := 2) rfl
  have q3 := (unhide HBb).cell (i := 3) rfl
  have q4 := (unhide HBb).cell (i := 4) rfl
  have q5 := (unhide HBb).cell (i := 5) rfl
  go_wp2_with fail
  refine (unhide QC _).mono ?_
  rintro e W6 ⟨rfl, hb⟩
  replace HAa := hide ((unhide HAa).step hb)
  replace HBb := hide ((unhide HBb).step hb)
  replace HW := hide (Below.step (unhide HW) hb)
  clear hb QC p0 p1 p2 p3 p4 p5 q0 q1 q2 q3 q4 q5
  obtain ⟨gf, egf⟩ : ∃ q, q = W6.heap.size + 1 := ⟨_, rfl⟩
  obtain ⟨V7, eV7⟩ : ∃ Vq, Vq = W6.alloc (.cells #[.int .i64 T1, .int .i64 T2] 36) := ⟨_, rfl⟩
  have hA7 : Below W6.heap.size W6 V7 := by rw [eV7]; exact Below.alloc1 _ _
  have hs7 : V7.heap.size = W6.heap.size + 1 := by rw [eV7, World.size_alloc]
  obtain ⟨gt, egt⟩ : ∃ q, q = W6.heap.size := ⟨_, rfl⟩
  have HT : Hid (OwnV V7 gt [.int .i64 T1, .int .i64 T2]) := by show OwnV _ _ _; rw [eV7, egt]; exact ownV_alloc _ _ _
  obtain ⟨V8, eV8⟩ : ∃ Vq, Vq = V7.alloc (.cells #[.int .i64 F1, .int .i64 F2] 36) := ⟨_, rfl⟩
  have hA8 : Below V7.heap.size V7 V8 := by rw [eV8]; exact Below.alloc1 _ _
  have HF : Hid (OwnV V8 gf [.int .i64 F1, .int .i64 F2]) := by show OwnV _ _ _; rw [eV8, egf, ← hs7]; exact ownV_alloc _ _ _
  replace HT := hide ((unhide HT).step hA8)
  have hA9 := Below.step hA7 hA8
  replace HAa := hide ((unhide HAa).step hA9)
  replace HBb := hide ((unhide HBb).step hA9)
  replace HW := hide (Below.step (unhide HW) hA9)
  go_upto_region 5 with (fail)
  rw [← eV7, ← eV8, ← egf, ← egt]
  clear eV7 eV8 egf egt hA7 hA8 hA9 hs7
  have c0 := (unhide HT).cell (i := 0) rfl
  have c1 := (unhide HT).cell (i := 1) rfl
  have c2 := (unhide HF).cell (i := 1) rfl
  have e1 : decide (T2 < 1) = false := by simp; omega
  have e2 : decide (F2 < 1) = false := by simp; omega
  have e3 : decide (T1 < 0) = false := by simp; omega
  generalize hw9 : V8 = w9 at *
  clear hw9
  go_wp2
  clear c0 c1 c2 e1 e2 e3 HT
  go_loopg [8] 6 (fun g mv wr => ∃ k : Nat, k ≤ 6 ∧ g = 6 - k ∧ mv = .int .i64 (k : Int) ∧ Hid (OwnV wr ga [.int .i64 ax, .int .i64 ay, .int .i64 au, .int .i64 av, .int .i64 ak, .int .i64 ad]) ∧ Hid (OwnV wr gb [.int .i64 cx, .int .i64 cy, .int .i64 cu, .int .i64 cv, .int .i64 ck, .int .i64 cd]) ∧ Hid (OwnV wr gf [.int .i64 F1, .int .i64 F2]) ∧ Hid (Below w.heap.size w wr))
  case atStart => exact ⟨0, by omega, rfl, rfl, HAa, HBb, HF, HW⟩
  case round =>
    clear HAa HBb HF HW
    obtain ⟨k, hk, rfl, rfl, HAa, HBb, HF, HW⟩ := hrel
    by_cases hk6 : k < 6
    · have hki : (k : Int) < 6 := by omega
      have hk0 : 0 ≤ (k : Int) ∧ (k : Int) ≤ 5 := by omega
      have ZA := hide (mov_zero (unhide HSA) (m := (k : Int)) (by omega))
      have ZB := hide (mov_zero (unhide HSB) (m := (k : Int)) (by omega))
      have PA := hide fun h => mov_at (x := ax) (y := ay) (u := au) (v := av) (k := ak) (d := ad) (m := (k : Int)) h
      have PB := hide fun h => mov_at (x := cx) (y := cy) (u := cu) (v := cv) (k := ck) (d := cd) (m := (k : Int)) h
      have MA := hide fun W => unhide QMA W (k : Int)
      have MB := hide fun W => unhide QMB W (k : Int)
      have LE := hide (unhide HLE (k : Int) (by omega))
      unfold movV at MA MB
      have SA := hide fun W => specShipOk_any (ax + (k : Int) * au) (ay + (k : Int) * av) au av ak 0 W
      have SB := hide fun W => specShipOk_any (cx + (k : Int) * cu) (cy + (k : Int) * cv) cu cv ck 0 W
      rw [unhide ZA] at SA
      rw [unhide ZB] at SB
      have pa := prod5 hk0 a3
      have pb := prod5 hk0 a4
      have pc := prod5 hk0 b3
      have pd := prod5 hk0 b4
      have EA := hide (Int.mul_comm au (k : Int))
      have EB := hide (Int.mul_comm av (k : Int))
      have EC := hide (Int.mul_comm cu (k : Int))
      have ED := hide (Int.mul_comm cv (k : Int))
      rw [unhide EA, unhide EB] at MA PA
      rw [unhide EC, unhide ED] at MB PB
      have EXX : Hid ((((cx - ax) + (cu - au) * (k : Int)) * ((cx - ax) + (cu - au) * (k : Int)) + ((cy - ay) + (cv - av) * (k : Int)) * ((cy - ay) + (cv - av) * (k : Int))) = ((ax + (k : Int) * au) - (cx + (k : Int) * cu)) * ((ax + (k : Int) * au) - (cx + (k : Int) * cu)) + ((ay + (k : Int) * av) - (cy + (k : Int) * cv)) * ((ay + (k : Int) * av) - (cy + (k : Int) * cv))) := by show _ = _; grind
      rw [unhide EXX] at LE
      obtain ⟨ma, ema⟩ : ∃ z, z = (k : Int) * au := ⟨_, rfl⟩
      rw [← ema] at pa
      obtain ⟨mb, emb⟩ : ∃ z, z = (k : Int) * av := ⟨_, rfl⟩
      rw [← emb] at pb
      obtain ⟨mc, emc⟩ : ∃ z, z = (k : Int) * cu := ⟨_, rfl⟩
      rw [← emc] at pc
      obtain ⟨md, emd⟩ : ∃ z, z = (k : Int) * cv := ⟨_, rfl⟩
      rw [← emd] at pd
      rw [← ema, ← emb] at MA PA SA
      rw [← emc, ← emd] at MB PB SB
      rw [← ema, ← emb, ← emc, ← emd] at LE
      have qma : IntKind.i64.wrap ((k : Int) * au) = ma := by rw [← ema, IntKind.wrap_i64]; omega
      have rma : (k : Int) * au = ma := ema.symm
      have qmb : IntKind.i64.wrap ((k : Int) * av) = mb := by rw [← emb, IntKind.wrap_i64]; omega
      have rmb : (k : Int) * av = mb := emb.symm
      have qmc : IntKind.i64.wrap ((k : Int) * cu) = mc := by rw [← emc, IntKind.wrap_i64]; omega
      have rmc : (k : Int) * cu = mc := emc.symm
      have qmd : IntKind.i64.wrap ((k : Int) * cv) = md := by rw [← emd, IntKind.wrap_i64]; omega
      have rmd : (k : Int) * cv = md := emd.symm
      clear ema emb emc emd
      clear ZA ZB EA EB EC ED EXX
      generalize movB ax ay au av ak ad (k : Int) = fa at *
      generalize movB cx cy cu cv ck cd (k : Int) = fb at *
      obtain ⟨X1, eX1⟩ : ∃ z, z = ax + ma := ⟨_, rfl⟩
      obtain ⟨Y1, eY1⟩ : ∃ z, z = ay + mb := ⟨_, rfl⟩
      obtain ⟨X2, eX2⟩ : ∃ z, z = cx + mc := ⟨_, rfl⟩
      obtain ⟨Y2, eY2⟩ : ∃ z, z = cy + md := ⟨_, rfl⟩
      have u1 : IntKind.i64.wrap (ax + ma) = X1 := by rw [← eX1, IntKind.wrap_i64]; omega
      have u2 : IntKind.i64.wrap (ay + mb) = Y1 := by rw [← eY1, IntKind.wrap_i64]; omega
      have u3 : IntKind.i64.wrap (cx + mc) = X2 := by rw [← eX2, IntKind.wrap_i64]; omega
      have u4 : IntKind.i64.wrap (cy + md) = Y2 := by rw [← eY2, IntKind.wrap_i64]; omega
      have vs1 : ax + ma = X1 := eX1.symm
      have vs2 : ay + mb = Y1 := eY1.symm
      have vs3 : cx + mc = X2 := eX2.symm
      have vs4 : cy + md = Y2 := eY2.symm
      rw [vs1, vs2] at MA PA SA
      rw [vs3, vs4] at MB PB SB
      rw [vs1, vs2, vs3, vs4] at LE
      clear eX1 eY1 eX2 eY2
      cases fa with
      | false =>
        cases fb with
        | false =>
          simp only [cond_false] at MA
          simp only [cond_false] at MB
          unfold vShip at MA MB SA SB
          have p0 := (unhide HAa).cell (i := 0) rfl
          have p1 := (unhide HAa).cell (i := 1) rfl
          have p2 := (unhide HAa).cell (i := 2) rfl
          have p3 := (unhide HAa).cell (i := 3) rfl
          have p4 := (unhide HAa).cell (i := 4) rfl
          have p5 := (unhide HAa).cell (i := 5) rfl
          go_wp2_with fail
          refine (unhide MA _).mono ?_
          rintro e R1 ⟨rfl, hb⟩
          replace HAa := hide ((unhide HAa).step hb)
          replace HBb := hide ((unhide HBb).step hb)
          replace HF := hide ((unhide HF).step hb)
          replace HW := hide (Below.step (unhide HW) hb)
          clear hb p0 p1 p2 p3 p4 p5
          obtain ⟨R2, eVn⟩ : ∃ Vq, Vq = R1.alloc (.cells #[.int .i64 0, .int .i64 0, .int .i64 0, .int .i64 0, .int .i64 0, .int .i64 0] 25) := ⟨_, rfl⟩
          obtain ⟨gx, egn⟩ : ∃ q, q = R1.heap.size := ⟨_, rfl⟩
          have hAn : Below R1.heap.size R1 R2 := by rw [eVn]; exact Below.alloc1 _ _
          have Hgx : Hid (OwnV R2 gx [.int .i64 0, .int .i64 0, .int .i64 0, .int .i64 0, .int .i64 0, .int .i64 0]) := by show OwnV _ _ _; rw [eVn, egn]; exact ownV_alloc _ _ _
          replace HAa := hide ((unhide HAa).step hAn)
          replace HBb := hide ((unhide HBb).step hAn)
          replace HF := hide ((unhide HF).step hAn)
          replace HW := hide (Below.step (unhide HW) hAn)
          go_upto_region 11 with (fail)
          rw [← eVn, ← egn]
          clear eVn egn hAn
          have q0 := (unhide HBb).cell (i := 0) rfl
          have q1 := (unhide HBb).cell (i := 1) rfl
          have q2 := (unhide HBb).cell (i := 2) rfl
          have q3 := (unhide HBb).cell (i := 3) rfl
          have q4 := (unhide HBb).cell (i := 4) rfl
          have q5 := (unhide HBb).cell (i := 5) rfl
          go_wp2_with fail
          refine (unhide MB _).mono ?_
          rintro e R3 ⟨rfl, hb⟩
          replace HAa := hide ((unhide HAa).step hb)
          replace HBb := hide ((unhide HBb).step hb)
          replace HF := hide ((unhide HF).step hb)
          replace HW := hide (Below.step (unhide HW) hb)
          replace Hgx := hide ((unhide Hgx).step hb)
          clear hb q0 q1 q2 q3 q4 q5
          obtain ⟨R4, eVn⟩ : ∃ Vq, Vq = R3.alloc (.cells #[.int .i64 0, .int .i64 0, .int .i64 0, .int .i64 0, .int .i64 0, .int .i64 0] 25) := ⟨_, rfl⟩
          obtain ⟨gy, egn⟩ : ∃ q, q = R3.heap.size := ⟨_, rfl⟩
          have hAn : Below R3.heap.size R3 R4 := by rw [eVn]; exact Below.alloc1 _ _
          have Hgy : Hid (OwnV R4 gy [.int .i64 0, .int .i64 0, .int .i64 0, .int .i64 0, .int .i64 0, .int .i64 0]) := by show OwnV _ _ _; rw [eVn, egn]; exact ownV_alloc _ _ _
          replace HAa := hide ((unhide HAa).step hAn)
          replace HBb := hide ((unhide HBb).step hAn)
          replace HF := hide ((unhide HF).step hAn)
          replace HW := hide (Below.step (unhide HW) hAn)
          replace Hgx := hide ((unhide Hgx).step hAn)
          go_upto_region 12 with (fail)
          rw [← eVn, ← egn]
          clear eVn egn hAn
          have p0 := (unhide HAa).cell (i := 0) rfl
          have p1 := (unhide HAa).cell (i := 1) rfl
          have p2 := (unhide HAa).cell (i := 2) rfl
          have p3 := (unhide HAa).cell (i := 3) rfl
          have p4 := (unhide HAa).cell (i := 4) rfl
          have p5 := (unhide HAa).cell (i := 5) rfl
          have q0 := (unhide HBb).cell (i := 0) rfl
          have q1 := (unhide HBb).cell (i := 1) rfl
          have q2 := (unhide HBb).cell (i := 2) rfl
          have q3 := (unhide HBb).cell (i := 3) rfl
          have q4 := (unhide HBb).cell (i := 4) rfl
          have q5 := (unhide HBb).cell (i := 5) rfl
          go_upto_region 13 with (fail)
          go_wp2_with fail
          refine (unhide SA _).mono ?_
          rintro e R5 ⟨rfl, hb⟩
          replace HW := hide (Below.step (unhide HW) hb)
          clear hb p0 p1 p2 p3 p4 p5 q0 q1 q2 q3 q4 q5
          go_wp2
          go_ret
          exact ⟨ret_bool (by simp), unhide HW⟩
        | true =>
          simp only [cond_false] at MA
          simp only [cond_true] at MB
          unfold vShip at MA MB SA SB
          have p0 := (unhide HAa).cell (i := 0) rfl
          have p1 := (unhide HAa).cell (i := 1) rfl
          have p2 := (unhide HAa).cell (i := 2) rfl
          have p3 := (unhide HAa).cell (i := 3) rfl
          have p4 := (unhide HAa).cell (i := 4) rfl
          have p5 := (unhide HAa).cell (i := 5) rfl
          go_wp2_with fail
          refine (unhide MA _).mono ?_
          rintro e R1 ⟨rfl, hb⟩
          replace HAa := hide ((unhide HAa).step hb)
          replace HBb := hide ((unhide HBb).step hb)
          replace HF := hide ((unhide HF).step hb)
          replace HW := hide (Below.step (unhide HW) hb)
          clear hb p0 p1 p2 p3 p4 p5
          obtain ⟨R2, eVn⟩ : ∃ Vq, Vq = R1.alloc (.cells #[.int .i64 0, .int .i64 0, .int .i64 0, .int .i64 0, .int .i64 0, .int .i64 0] 25) := ⟨_, rfl⟩
          obtain ⟨gx, egn⟩ : ∃ q, q = R1.heap.size := ⟨_, rfl⟩
          have hAn : Below R1.heap.size R1 R2 := by rw [eVn]; exact Below.alloc1 _ _
          have Hgx : Hid (OwnV R2 gx [.int .i64 0, .int .i64 0, .int .i64 0, .int .i64 0, .int .i64 0, .int .i64 0]) := by show OwnV _ _ _; rw [eVn, egn]; exact ownV_alloc _ _ _
          replace HAa := hide ((unhide HAa).step hAn)
          replace HBb := hide ((unhide HBb).step hAn)
          replace HF := hide ((unhide HF).step hAn)
          replace HW := hide (Below.step (unhide HW) hAn)
          go_upto_region 11 with (fail)
          rw [← eVn, ← egn]
          clear eVn egn hAn
          have q0 := (unhide HBb).cell (i := 0) rfl
          have q1 := (unhide HBb).cell (i := 1) rfl
          have q2 := (unhide HBb).cell (i := 2) rfl
          have q3 := (unhide HBb).cell (i := 3) rfl
          have q4 := (unhide HBb).cell (i := 4) rfl
          have q5 := (unhide HBb).cell (i := 5) rfl
          go_wp2_with fail
          refine (unhide MB _).mono ?_
          rintro e R3 ⟨rfl, hb⟩
          replace HAa := hide ((unhide HAa).step hb)
          replace HBb := hide ((unhide HBb).step hb)
          replace HF := hide ((unhide HF).step hb)
          replace HW := hide (Below.step (unhide HW) hb)
          replace Hgx := hide ((unhide Hgx).step hb)
          clear hb q0 q1 q2 q3 q4 q5
          obtain ⟨R4, eVn⟩ : ∃ Vq, Vq = R3.alloc (.cells #[.int .i64 X2, .int .i64 Y2, .int .i64 cu, .int .i64 cv, .int .i64 ck, .int .i64 cd] 25) := ⟨_, rfl⟩
          obtain ⟨gy, egn⟩ : ∃ q, q = R3.heap.size := ⟨_, rfl⟩
          have hAn : Below R3.heap.size R3 R4 := by rw [eVn]; exact Below.alloc1 _ _
          have Hgy : Hid (OwnV R4 gy [.int .i64 X2, .int .i64 Y2, .int .i64 cu, .int .i64 cv, .int .i64 ck, .int .i64 cd]) := by show OwnV _ _ _; rw [eVn, egn]; exact ownV_alloc _ _ _
          replace HAa := hide ((unhide HAa).step hAn)
          replace HBb := hide ((unhide HBb).step hAn)
          replace HF := hide ((unhide HF).step hAn)
          replace HW := hide (Below.step (unhide HW) hAn)
          replace Hgx := hide ((unhide Hgx).step hAn)
          go_upto_region 12 with (fail)
          rw [← eVn, ← egn]
          clear eVn egn hAn
          have p0 := (unhide HAa).cell (i := 0) rfl
          have p1 := (unhide HAa).cell (i := 1) rfl
          have p2 := (unhide HAa).cell (i := 2) rfl
          have p3 := (unhide HAa).cell (i := 3) rfl
          have p4 := (unhide HAa).cell (i := 4) rfl
          have p5 := (unhide HAa).cell (i := 5) rfl
          have q0 := (unhide HBb).cell (i := 0) rfl
          have q1 := (unhide HBb).cell (i := 1) rfl
          have q2 := (unhide HBb).cell (i := 2) rfl
          have q3 := (unhide HBb).cell (i := 3) rfl
          have q4 := (unhide HBb).cell (i := 4) rfl
          have q5 := (unhide HBb).cell (i := 5) rfl
          go_upto_region 13 with (fail)
          go_wp2_with fail
          refine (unhide SA _).mono ?_
          rintro e R5 ⟨rfl, hb⟩
          replace HW := hide (Below.step (unhide HW) hb)
          clear hb p0 p1 p2 p3 p4 p5 q0 q1 q2 q3 q4 q5
          go_wp2
          go_ret
          exact ⟨ret_bool (by simp), unhide HW⟩
      | true =>
        cases fb with
        | false =>
          simp only [cond_true] at MA
          simp only [cond_false] at MB
          unfold vShip at MA MB SA SB
          have p0 := (unhide HAa).cell (i := 0) rfl
          have p1 := (unhide HAa).cell (i := 1) rfl
          have p2 := (unhide HAa).cell (i := 2) rfl
          have p3 := (unhide HAa).cell (i := 3) rfl
          have p4 := (unhide HAa).cell (i := 4) rfl
          have p5 := (unhide HAa).cell (i := 5) rfl
          go_wp2_with fail
          refine (unhide MA _).mono ?_
          rintro e R1 ⟨rfl, hb⟩
          replace HAa := hide ((unhide HAa).step hb)
          replace HBb := hide ((unhide HBb).step hb)
          replace HF := hide ((unhide HF).step hb)
          replace HW := hide (Below.step (unhide HW) hb)
          clear hb p0 p1 p2 p3 p4 p5
          obtain ⟨R2, eVn⟩ : ∃ Vq, Vq = R1.alloc (.cells #[.int .i64 X1, .int .i64 Y1, .int .i64 au, .int .i64 av, .int .i64 ak, .int .i64 ad] 25) := ⟨_, rfl⟩
          obtain ⟨gx, egn⟩ : ∃ q, q = R1.heap.size := ⟨_, rfl⟩
          have hAn : Below R1.heap.size R1 R2 := by rw [eVn]; exact Below.alloc1 _ _
          have Hgx : Hid (OwnV R2 gx [.int .i64 X1, .int .i64 Y1, .int .i64 au, .int .i64 av, .int .i64 ak, .int .i64 ad]) := by show OwnV _ _ _; rw [eVn, egn]; exact ownV_alloc _ _ _
          replace HAa := hide ((unhide HAa).step hAn)
          replace HBb := hide ((unhide HBb).step hAn)
          replace HF := hide ((unhide HF).step hAn)
          replace HW := hide (Below.step (unhide HW) hAn)
          go_upto_region 11 with (fail)
          rw [← eVn, ← egn]
          clear eVn egn hAn
          have q0 := (unhide HBb).cell (i := 0) rfl
          have q1 := (unhide HBb).cell (i := 1) rfl
          have q2 := (unhide HBb).cell (i := 2) rfl
          have q3 := (unhide HBb).cell (i := 3) rfl
          have q4 := (unhide HBb).cell (i := 4) rfl
          have q5 := (unhide HBb).cell (i := 5) rfl
          go_wp2_with fail
          refine (unhide MB _).mono ?_
          rintro e R3 ⟨rfl, hb⟩
          replace HAa := hide ((unhide HAa).step hb)
          replace HBb := hide ((unhide HBb).step hb)
          replace HF := hide ((unhide HF).step hb)
          replace HW := hide (Below.step (unhide HW) hb)
          replace Hgx := hide ((unhide Hgx).step hb)
          clear hb q0 q1 q2 q3 q4 q5
          obtain ⟨R4, eVn⟩ : ∃ Vq, Vq = R3.alloc (.cells #[.int .i64 0, .int .i64 0, .int .i64 0, .int .i64 0, .int .i64 0, .int .i64 0] 25) := ⟨_, rfl⟩
          obtain ⟨gy, egn⟩ : ∃ q, q = R3.heap.size := ⟨_, rfl⟩
          have hAn : Below R3.heap.size R3 R4 := by rw [eVn]; exact Below.alloc1 _ _
          have Hgy : Hid (OwnV R4 gy [.int .i64 0, .int .i64 0, .int .i64 0, .int .i64 0, .int .i64 0, .int .i64 0]) := by show OwnV _ _ _; rw [eVn, egn]; exact ownV_alloc _ _ _
          replace HAa := hide ((unhide HAa).step hAn)
          replace HBb := hide ((unhide HBb).step hAn)
          replace HF := hide ((unhide HF).step hAn)
          replace HW := hide (Below.step (unhide HW) hAn)
          replace Hgx := hide ((unhide Hgx).step hAn)
          go_upto_region 12 with (fail)
          rw [← eVn, ← egn]
          clear eVn egn hAn
          have p0 := (unhide HAa).cell (i := 0) rfl
          have p1 := (unhide HAa).cell (i := 1) rfl
          have p2 := (unhide HAa).cell (i := 2) rfl
          have p3 := (unhide HAa).cell (i := 3) rfl
          have p4 := (unhide HAa).cell (i := 4) rfl
          have p5 := (unhide HAa).cell (i := 5) rfl
          go_upto_region 13 with (fail)
          go_wp2_with fail
          refine (unhide SA _).mono ?_
          rintro e R5 ⟨rfl, hb⟩
          replace HBb := hide ((unhide HBb).step hb)
          replace HW := hide (Below.step (unhide HW) hb)
          clear hb p0 p1 p2 p3 p4 p5
          have q0 := (unhide HBb).cell (i := 0) rfl
          have q1 := (unhide HBb).cell (i := 1) rfl
          have q2 := (unhide HBb).cell (i := 2) rfl
          have q3 := (unhide HBb).cell (i := 3) rfl
          have q4 := (unhide HBb).cell (i := 4) rfl
          have q5 := (unhide HBb).cell (i := 5) rfl
          go_wp2_with fail
          refine (unhide SB _).mono ?_
          rintro e R6 ⟨rfl, hb⟩
          replace HW := hide (Below.step (unhide HW) hb)
          clear hb q0 q1 q2 q3 q4 q5
          go_wp2
          go_ret
          exact ⟨ret_bool (by simp), unhide HW⟩
        | true =>
          simp only [cond_true] at MA
          simp only [cond_true] at MB
          unfold vShip at MA MB SA SB
          have p0 := (unhide HAa).cell (i := 0) rfl
          have p1 := (unhide HAa).cell (i := 1) rfl
          have p2 := (unhide HAa).cell (i := 2) rfl
          have p3 := (unhide HAa).cell (i := 3) rfl
          have p4 := (unhide HAa).cell (i := 4) rfl
          have p5 := (unhide HAa).cell (i := 5) rfl
          go_wp2_with fail
          refine (unhide MA _).mono ?_
          rintro e R1 ⟨rfl, hb⟩
          replace HAa := hide ((unhide HAa).step hb)
          replace HBb := hide ((unhide HBb).step hb)
          replace HF := hide ((unhide HF).step hb)
          replace HW := hide (Below.step (unhide HW) hb)
          clear hb p0 p1 p2 p3 p4 p5
          obtain ⟨R2, eVn⟩ : ∃ Vq, Vq = R1.alloc (.cells #[.int .i64 X1, .int .i64 Y1, .int .i64 au, .int .i64 av, .int .i64 ak, .int .i64 ad] 25) := ⟨_, rfl⟩
          obtain ⟨gx, egn⟩ : ∃ q, q = R1.heap.size := ⟨_, rfl⟩
          have hAn : Below R1.heap.size R1 R2 := by rw [eVn]; exact Below.alloc1 _ _
          have Hgx : Hid (OwnV R2 gx [.int .i64 X1, .int .i64 Y1, .int .i64 au, .int .i64 av, .int .i64 ak, .int .i64 ad]) := by show OwnV _ _ _; rw [eVn, egn]; exact ownV_alloc _ _ _
          replace HAa := hide ((unhide HAa).step hAn)
          replace HBb := hide ((unhide HBb).step hAn)
          replace HF := hide ((unhide HF).step hAn)
          replace HW := hide (Below.step (unhide HW) hAn)
          go_upto_region 11 with (fail)
          rw [← eVn, ← egn]
          clear eVn egn hAn
          have q0 := (unhide HBb).cell (i := 0) rfl
          have q1 := (unhide HBb).cell (i := 1) rfl
          have q2 := (unhide HBb).cell (i := 2) rfl
          have q3 := (unhide HBb).cell (i := 3) rfl
          have q4 := (unhide HBb).cell (i := 4) rfl
          have q5 := (unhide HBb).cell (i := 5) rfl
          go_wp2_with fail
          refine (unhide MB _).mono ?_
          rintro e R3 ⟨rfl, hb⟩
          replace HAa := hide ((unhide HAa).step hb)
          replace HBb := hide ((unhide HBb).step hb)
          replace HF := hide ((unhide HF).step hb)
          replace HW := hide (Below.step (unhide HW) hb)
          replace Hgx := hide ((unhide Hgx).step hb)
          clear hb q0 q1 q2 q3 q4 q5
          obtain ⟨R4, eVn⟩ : ∃ Vq, Vq = R3.alloc (.cells #[.int .i64 X2, .int .i64 Y2, .int .i64 cu, .int .i64 cv, .int .i64 ck, .int .i64 cd] 25) := ⟨_, rfl⟩
          obtain ⟨gy, egn⟩ : ∃ q, q = R3.heap.size := ⟨_, rfl⟩
          have hAn : Below R3.heap.size R3 R4 := by rw [eVn]; exact Below.alloc1 _ _
          have Hgy : Hid (OwnV R4 gy [.int .i64 X2, .int .i64 Y2, .int .i64 cu, .int .i64 cv, .int .i64 ck, .int .i64 cd]) := by show OwnV _ _ _; rw [eVn, egn]; exact ownV_alloc _ _ _
          replace HAa := hide ((unhide HAa).step hAn)
          replace HBb := hide ((unhide HBb).step hAn)
          replace HF := hide ((unhide HF).step hAn)
          replace HW := hide (Below.step (unhide HW) hAn)
          replace Hgx := hide ((unhide Hgx).step hAn)
          go_upto_region 12 with (fail)
          rw [← eVn, ← egn]
          clear eVn egn hAn
          obtain ⟨g1, g2⟩ := unhide PA (by simp)
          obtain ⟨g3, g4⟩ := unhide PB (by simp)
          obtain ⟨dx, edx⟩ : ∃ z, z = X1 - X2 := ⟨_, rfl⟩
          obtain ⟨dy, edy⟩ : ∃ z, z = Y1 - Y2 := ⟨_, rfl⟩
          rw [← edx, ← edy] at LE
          have s1 : IntKind.i64.wrap (X1 - X2) = dx := by rw [← edx, IntKind.wrap_i64]; omega
          have s2 : IntKind.i64.wrap (Y1 - Y2) = dy := by rw [← edy, IntKind.wrap_i64]; omega
          have s3 : X1 - X2 = dx := edx.symm
          have s4 : Y1 - Y2 = dy := edy.symm
          have nx := natMul (a := dx) (b := dx) (A := 200000) (B := 200000) (by omega) (by omega)
          have ny := natMul (a := dy) (b := dy) (A := 200000) (B := 200000) (by omega) (by omega)
          have zx := sqn dx
          have zy := sqn dy
          obtain ⟨sx, esx⟩ : ∃ z, z = dx * dx := ⟨_, rfl⟩
          obtain ⟨sy, esy⟩ : ∃ z, z = dy * dy := ⟨_, rfl⟩
          rw [← esx] at LE nx zx
          rw [← esy] at LE ny zy
          have bx : sx ≤ 40000000000 := by omega
          have byy : sy ≤ 40000000000 := by omega
          have s5 : IntKind.i64.wrap (dx * dx) = sx := by rw [← esx, IntKind.wrap_i64]; omega
          have s6 : IntKind.i64.wrap (dy * dy) = sy := by rw [← esy, IntKind.wrap_i64]; omega
          have s7 : dx * dx = sx := esx.symm
          have s8 : dy * dy = sy := esy.symm
          obtain ⟨ss, ess⟩ : ∃ z, z = sx + sy := ⟨_, rfl⟩
          rw [← ess] at LE
          have s9 : IntKind.i64.wrap (sx + sy) = ss := by rw [← ess, IntKind.wrap_i64]; omega
          have s0 : sx + sy = ss := ess.symm
          have LS := hide fun W => less1_any ss F1 F2 W (by omega) f1 f2 (unhide LE)
          clear edx edy esx esy ess nx ny
          unfold v2 at LS
          go_upto_region 14 with (fail)
          have x0 := (unhide Hgx).cell (i := 0) rfl
          have x1 := (unhide Hgx).cell (i := 1) rfl
          have y0 := (unhide Hgy).cell (i := 0) rfl
          have y1 := (unhide Hgy).cell (i := 1) rfl
          go_region
          have hd : Below R4.heap.size R4 R4.drew := (Below.refl _ _).drew
          replace HAa := hide ((unhide HAa).step hd)
          replace HBb := hide ((unhide HBb).step hd)
          replace HF := hide ((unhide HF).step hd)
          replace HW := hide (Below.step (unhide HW) hd)
          clear hd x0 x1 y0 y1
          generalize R4.drew = R5 at *
          have c0 := (unhide HF).cell (i := 0) rfl
          have c1 := (unhide HF).cell (i := 1) rfl
          go_wp2_with fail
          refine (unhide LS _).mono ?_
          rintro e R6 ⟨rfl, hb⟩
          replace HAa := hide ((unhide HAa).step hb)
          replace HBb := hide ((unhide HBb).step hb)
          replace HF := hide ((unhide HF).step hb)
          replace HW := hide (Below.step (unhide HW) hb)
          clear hb c0 c1
          go_wp2
          go_roundg (6 - (k + 1))
          case measure => omega
          case rel => exact ⟨k + 1, by omega, rfl, by go_num, HAa, HBb, HF, HW⟩
    · obtain rfl : k = 6 := by omega
      go_wp2
      go_ret
      exact ⟨rfl, unhide HW⟩

end Go.Proofs.Ytcljgaofpeaplaa

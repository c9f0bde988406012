/- FnApart: whatever the bytes, what two classes ask for is alike from either, and nothing of one and the same; what is kept apart is kept from either side, and farther away too. Written by wip/mkapart.py. -/
import Derived.Test.YtdkfleodgdpckaaStoM
import Derived.Test.YtdkfleodgdpckaaAtFix
import Derived.Test.YtdkfleodgdpckaaBxG
namespace Go.Proofs.Ytdkfleodgdpckaa
open Go.RowKit

theorem apV_self {a : Int} (h : inB a 0 9 = true) : apV a a = 0 := by rw [apV_in h h, if_pos (Or.inr (Or.inr rfl))]
theorem apV_ten (a : Int) : apV a 10 = -1 := apV_out (Or.inr (by decide))
theorem csqu_ok (x : Int) (h : inB x 0 9 = true) : boxB ⟨#[67, 83, 81, 85, 51, 48, 53, 52, 51, 56, 51]⟩ 5 x 0 3 = true := by
  have h1 : bnB ⟨#[67, 83, 81, 85, 51, 48, 53, 52, 51, 56, 51]⟩ = true := by decide +kernel
  unfold boxB
  rw [h1, h]
  decide
theorem keep_same (a b : Bool) (ca cb x y z : Int) : keepB a b ca cb x y z x y z = false := by
  unfold keepB
  simp
theorem keep_far {ca cb px py pz qy qz : Int} (h1 : spotB px py pz = true) (h2 : spotB (px + 9) qy qz = true) (h3 : 0 ≤ apV ca cb) (h4 : apV ca cb ≤ 3) : keepB true true ca cb px py pz (px + 9) qy qz = (apV ca cb != 3) := by
  unfold keepB
  rw [h1, h2]
  have e : decide (px = px + 9 ∧ py = qy ∧ pz = qz) = false := by simp; omega
  rw [e, show (px - (px + 9)).natAbs = 9 by omega]
  have hv : apV ca cb = 0 ∨ apV ca cb = 1 ∨ apV ca cb = 2 ∨ apV ca cb = 3 := by omega
  rcases hv with h | h | h | h <;> rw [h] <;> simp [keptB] <;> omega
theorem keep_not {ca cb px py pz qx qy qz : Int} (h1 : spotB px py pz = true) (h2 : spotB qx qy qz = true) (hne : ¬ (px = qx ∧ py = qy ∧ pz = qz)) (h : apV ca cb = 0) : keepB true true ca cb px py pz qx qy qz = true := by
  unfold keepB
  rw [h1, h2, h, decide_eq_false hne]
  simp [keptB]

set_option maxRecDepth 10000 in
set_option maxHeartbeats 12800000 in
theorem fnApart_any (v : Value) (nb : Nat) (w : World) (h : BytesIn w.heap.size w v nb) :
    Calls Try.prog 3 #[v] w fun e w' => e = .returned (.bool true) ∧ Below w.heap.size w w' := by
  have HB := hide h
  obtain ⟨vao, vcap, rfl, hl, hm, _⟩ := h
  unfold maxLen at hm
  have HBIG := hide (big_any vao nb vcap w)
  cases hbig : decide ((1048576 : Int) < (nb : Int)) with
  | true =>
    rw [hbig] at HBIG
    go_enter Try.func3, Try.ntmps3
    go_wp2_with fail
    refine (unhide HBIG).mono ?_
    rintro e w' ⟨rfl, rfl⟩
    go_wp2
    go_ret
    exact ⟨rfl, Below.refl _ _⟩
  | false =>
  rw [hbig] at HBIG
  have hnb : nb ≤ 1048576 := by rw [decide_eq_false_iff_not] at hbig; omega
  have HAT := hide fun k hk => at_fix _ nb k w (unhide HB) hnb hk
  clear hbig HB hl hm
  obtain ⟨z0, hz0a, hz0b, HZ0⟩ := unhide HAT 0 (by omega)
  replace HZ0 := hide HZ0
  obtain ⟨z1, hz1a, hz1b, HZ1⟩ := unhide HAT 1 (by omega)
  replace HZ1 := hide HZ1
  obtain ⟨z2, hz2a, hz2b, HZ2⟩ := unhide HAT 2 (by omega)
  replace HZ2 := hide HZ2
  obtain ⟨z3, hz3a, hz3b, HZ3⟩ := unhide HAT 3 (by omega)
  replace HZ3 := hide HZ3
  obtain ⟨z4, hz4a, hz4b, HZ4⟩ := unhide HAT 4 (by omega)
  replace HZ4 := hide HZ4
  obtain ⟨z5, hz5a, hz5b, HZ5⟩ := unhide HAT 5 (by omega)
  replace HZ5 := hide HZ5
  obtain ⟨z6, hz6a, hz6b, HZ6⟩ := unhide HAT 6 (by omega)
  replace HZ6 := hide HZ6
  obtain ⟨z7, hz7a, hz7b, HZ7⟩ := unhide HAT 7 (by omega)
  replace HZ7 := hide HZ7
  clear HAT
  go_enter Try.func3, Try.ntmps3
  go_wp2_with fail
  refine (unhide HBIG).mono ?_
  rintro e w' ⟨rfl, h9⟩
  subst h9
  clear HBIG
  go_wp2_with fail
  refine (unhide HZ0 _ (Below.refl _ _)).mono ?_
  rintro e w' ⟨rfl, rfl⟩
  go_wp2_with fail
  refine (unhide HZ1 _ (Below.refl _ _)).mono ?_
  rintro e w1 ⟨rfl, rfl⟩
  clear HZ0 HZ1
  obtain ⟨x, ex⟩ : ∃ x : Int, x = z0 % 10 := ⟨_, rfl⟩
  obtain ⟨y, ey⟩ : ∃ y : Int, y = z1 % 10 := ⟨_, rfl⟩
  have hx : inB x 0 9 = true := inB_mk (by omega) (by omega)
  have hy : inB y 0 9 = true := inB_mk (by omega) (by omega)
  have qx : z0 % 10 = x := ex.symm
  have qy : z1 % 10 = y := ey.symm
  clear ex ey
  have QA := hide fun a b V => implApart_any a b V
  have ESY := hide (apV_symm y x)
  have ESF := hide (apV_self hx)
  have ETN := hide (apV_ten x)
  have HVB := apV_bd hx hy
  obtain ⟨hv0, hv3⟩ := HVB
  obtain ⟨u, eu⟩ : ∃ u : Int, u = apV x y := ⟨_, rfl⟩
  rw [← eu] at ESY hv0 hv3
  have EU := hide eu
  have BX1 := hide (csqu_ok x hx)
  have BX2 := hide (csqu_ok y hy)
  clear eu hx hy
  go_wp2_with fail
  refine (unhide QA x y _).mono ?_
  rintro e w1 ⟨rfl, rfl⟩
  rw [← unhide EU]
  go_wp2_with fail
  refine (unhide QA y x _).mono ?_
  rintro e w1 ⟨rfl, rfl⟩
  rw [unhide ESY]
  go_wp2_with fail
  refine (unhide QA x x _).mono ?_
  rintro e w1 ⟨rfl, rfl⟩
  rw [unhide ESF]
  go_wp2_with fail
  refine (unhide QA x 10 _).mono ?_
  rintro e w1 ⟨rfl, rfl⟩
  rw [unhide ETN]
  clear QA ESY ESF ETN
  obtain ⟨V1, eV⟩ : ∃ V, V = (w1.alloc (.cells #[.string ⟨#[67, 83, 81, 85, 51, 48, 53, 52, 51, 56, 51]⟩, .int .i64 5, .int .i64 x, .bool false, .int .i64 0, .int .i64 3] 27)).alloc (.cells #[.string ⟨#[67, 83, 81, 85, 51, 48, 53, 52, 51, 56, 51]⟩, .int .i64 5, .int .i64 y, .bool false, .int .i64 0, .int .i64 3] 27) := ⟨_, rfl⟩
  have HW : Hid (Below w1.heap.size w1 V1) := by show Below _ _ _; rw [eV]; exact Below.step (Below.alloc1 _ _) (Below.alloc1 _ _)
  have HA : Hid (OwnV V1 w1.heap.size [.string ⟨#[67, 83, 81, 85, 51, 48, 53, 52, 51, 56, 51]⟩, .int .i64 5, .int .i64 x, .bool false, .int .i64 0, .int .i64 3]) := by
    show OwnV _ _ _
    rw [eV]
    exact OwnV.alloc (ownV_alloc w1 #[.string ⟨#[67, 83, 81, 85, 51, 48, 53, 52, 51, 56, 51]⟩, .int .i64 5, .int .i64 x, .bool false, .int .i64 0, .int .i64 3] 27) _
  have HC : Hid (OwnV V1 (w1.heap.size + 1) [.string ⟨#[67, 83, 81, 85, 51, 48, 53, 52, 51, 56, 51]⟩, .int .i64 5, .int .i64 y, .bool false, .int .i64 0, .int .i64 3]) := by
    show OwnV _ _ _
    rw [eV]
    have h := ownV_alloc (w1.alloc (.cells #[.string ⟨#[67, 83, 81, 85, 51, 48, 53, 52, 51, 56, 51]⟩, .int .i64 5, .int .i64 x, .bool false, .int .i64 0, .int .i64 3] 27)) #[.string ⟨#[67, 83, 81, 85, 51, 48, 53, 52, 51, 56, 51]⟩, .int .i64 5, .int .i64 y, .bool false, .int .i64 0, .int .i64 3] 27
    simp only [World.size_alloc] at h
    exact h
  go_wp2_with fail
  rw [← eV]
  clear eV
  refine (unhide HZ2 _ (unhide HW)).mono ?_
  rintro e w2 ⟨rfl, rfl⟩
  go_wp2_with fail
  refine (unhide HZ3 _ (unhide HW)).mono ?_
  rintro e w3 ⟨rfl, rfl⟩
  go_wp2_with fail
  refine (unhide HZ4 _ (unhide HW)).mono ?_
  rintro e w4 ⟨rfl, rfl⟩
  obtain ⟨p0, e0⟩ : ∃ x : Int, x = z2 % 4 := ⟨_, rfl⟩
  obtain ⟨p1, e1⟩ : ∃ x : Int, x = z3 % 3 := ⟨_, rfl⟩
  obtain ⟨p2, e2⟩ : ∃ x : Int, x = z4 % 3 := ⟨_, rfl⟩
  have hp0 : 0 ≤ p0 ∧ p0 ≤ 3 := by omega
  have hp1 : 0 ≤ p1 ∧ p1 ≤ 2 := by omega
  have hp2 : 0 ≤ p2 ∧ p2 ≤ 2 := by omega
  have r0 : z2 % 4 = p0 := e0.symm
  have r1 : z3 % 3 = p1 := e1.symm
  have r2 : z4 % 3 = p2 := e2.symm
  clear e0 e1 e2 HZ2 HZ3 HZ4
  have hA := Below.alloc1 w4 (.cells #[.int .i64 p0, .int .i64 p1, .int .i64 p2] 29)
  have HP := hide (ownV_alloc w4 #[.int .i64 p0, .int .i64 p1, .int .i64 p2] 29)
  replace HW := hide (Below.step (unhide HW) hA)
  replace HA := hide ((unhide HA).step hA)
  replace HC := hide ((unhide HC).step hA)
  clear hA
  obtain ⟨gp, egp⟩ : ∃ g, g = w4.heap.size := ⟨_, rfl⟩
  obtain ⟨V2, eV⟩ : ∃ V, V = w4.alloc (.cells #[.int .i64 p0, .int .i64 p1, .int .i64 p2] 29) := ⟨_, rfl⟩
  rw [← eV] at HW HA HC
  rw [← eV, ← egp] at HP
  go_wp2_with fail
  rw [← eV, ← egp]
  clear eV egp
  refine (unhide HZ5 _ (unhide HW)).mono ?_
  rintro e w5 ⟨rfl, rfl⟩
  go_wp2_with fail
  refine (unhide HZ6 _ (unhide HW)).mono ?_
  rintro e w6 ⟨rfl, rfl⟩
  go_wp2_with fail
  refine (unhide HZ7 _ (unhide HW)).mono ?_
  rintro e w7 ⟨rfl, rfl⟩
  obtain ⟨q0, e0⟩ : ∃ x : Int, x = z5 % 4 := ⟨_, rfl⟩
  obtain ⟨q1, e1⟩ : ∃ x : Int, x = z6 % 3 := ⟨_, rfl⟩
  obtain ⟨q2, e2⟩ : ∃ x : Int, x = z7 % 3 := ⟨_, rfl⟩
  have hq0 : 0 ≤ q0 ∧ q0 ≤ 3 := by omega
  have hq1 : 0 ≤ q1 ∧ q1 ≤ 2 := by omega
  have hq2 : 0 ≤ q2 ∧ q2 ≤ 2 := by omega
  have s0 : z5 % 4 = q0 := e0.symm
  have s1 : z6 % 3 = q1 := e1.symm
  have s2 : z7 % 3 = q2 := e2.symm
  clear e0 e1 e2 HZ5 HZ6 HZ7
  have hA := Below.alloc1 w7 (.cells #[.int .i64 q0, .int .i64 q1, .int .i64 q2] 29)
  have HQ := hide (ownV_alloc w7 #[.int .i64 q0, .int .i64 q1, .int .i64 q2] 29)
  replace HW := hide (Below.step (unhide HW) hA)
  replace HA := hide ((unhide HA).step hA)
  replace HC := hide ((unhide HC).step hA)
  replace HP := hide ((unhide HP).step hA)
  clear hA
  have SP1 : Hid (spotB p0 p1 p2 = true) := by show _ = _; unfold spotB; rw [inB_mk (by omega) (by omega), inB_mk (by omega) (by omega), inB_mk (by omega) (by omega)]; rfl
  have SP2 : Hid (spotB q0 q1 q2 = true) := by show _ = _; unfold spotB; rw [inB_mk (by omega) (by omega), inB_mk (by omega) (by omega), inB_mk (by omega) (by omega)]; rfl
  have SP3 : Hid (spotB (p0 + 9) q1 q2 = true) := by show _ = _; unfold spotB; rw [inB_mk (by omega) (by omega), inB_mk (by omega) (by omega), inB_mk (by omega) (by omega)]; rfl
  have K1 := hide fun V => implKeepsApart_any ⟨#[67, 83, 81, 85, 51, 48, 53, 52, 51, 56, 51]⟩ 5 x false 0 3 p0 p1 p2 ⟨#[67, 83, 81, 85, 51, 48, 53, 52, 51, 56, 51]⟩ 5 y false 0 3 q0 q1 q2 V
  have K2 := hide fun V => implKeepsApart_any ⟨#[67, 83, 81, 85, 51, 48, 53, 52, 51, 56, 51]⟩ 5 y false 0 3 q0 q1 q2 ⟨#[67, 83, 81, 85, 51, 48, 53, 52, 51, 56, 51]⟩ 5 x false 0 3 p0 p1 p2 V
  have K3 := hide fun V => implKeepsApart_any ⟨#[67, 83, 81, 85, 51, 48, 53, 52, 51, 56, 51]⟩ 5 x false 0 3 p0 p1 p2 ⟨#[67, 83, 81, 85, 51, 48, 53, 52, 51, 56, 51]⟩ 5 y false 0 3 (p0 + 9) q1 q2 V
  have QB := hide fun V => implBoxOk_any ⟨#[67, 83, 81, 85, 51, 48, 53, 52, 51, 56, 51]⟩ 5 x false 0 3 V
  rw [unhide BX1, unhide BX2] at K1 K2 K3
  rw [unhide BX1] at QB
  rw [keepB_symm] at K2
  rw [keep_far (unhide SP1) (unhide SP3) (by rw [← unhide EU]; exact hv0) (by rw [← unhide EU]; exact hv3), ← unhide EU] at K3
  have KS : Hid (p0 = q0 ∧ p1 = q1 ∧ p2 = q2 → keepB true true x y p0 p1 p2 q0 q1 q2 = false) := by
    rintro ⟨rfl, rfl, rfl⟩
    exact keep_same _ _ _ _ _ _ _
  have KN : Hid (¬ (p0 = q0 ∧ p1 = q1 ∧ p2 = q2) → u = 0 → keepB true true x y p0 p1 p2 q0 q1 q2 = true) := fun hne hu => keep_not (unhide SP1) (unhide SP2) hne (by rw [← unhide EU]; exact hu)
  generalize keepB true true x y p0 p1 p2 q0 q1 q2 = r at *
  unfold vBox v3 at *
  clear SP1 SP2 SP3 BX1 BX2 EU
  have ca0 := (unhide HA).cell (i := 0) rfl
  have ca1 := (unhide HA).cell (i := 1) rfl
  have ca2 := (unhide HA).cell (i := 2) rfl
  have ca3 := (unhide HA).cell (i := 3) rfl
  have ca4 := (unhide HA).cell (i := 4) rfl
  have ca5 := (unhide HA).cell (i := 5) rfl
  have cc0 := (unhide HC).cell (i := 0) rfl
  have cc1 := (unhide HC).cell (i := 1) rfl
  have cc2 := (unhide HC).cell (i := 2) rfl
  have cc3 := (unhide HC).cell (i := 3) rfl
  have cc4 := (unhide HC).cell (i := 4) rfl
  have cc5 := (unhide HC).cell (i := 5) rfl
  have cp0 := (unhide HP).cell (i := 0) rfl
  have cp1 := (unhide HP).cell (i := 1) rfl
  have cp2 := (unhide HP).cell (i := 2) rfl
  have cq0 := (unhide HQ).cell (i := 0) rfl
  have cq1 := (unhide HQ).cell (i := 1) rfl
  have cq2 := (unhide HQ).cell (i := 2) rfl
  go_wp2_with fail
  refine (unhide K1 _).mono ?_
  rintro e w8 ⟨rfl, hb⟩
  replace HW := hide (Below.step (unhide HW) hb)
  replace HA := hide ((unhide HA).step hb)
  replace HC := hide ((unhide HC).step hb)
  replace HP := hide ((unhide HP).step hb)
  replace HQ := hide ((unhide HQ).step hb)
  clear hb K1
  clear ca0 ca1 ca2 ca3 ca4 ca5 cc0 cc1 cc2 cc3 cc4 cc5 cp0 cp1 cp2 cq0 cq1 cq2
  have ca0 := (unhide HA).cell (i := 0) rfl
  have ca1 := (unhide HA).cell (i := 1) rfl
  have ca2 := (unhide HA).cell (i := 2) rfl
  have ca3 := (unhide HA).cell (i := 3) rfl
  have ca4 := (unhide HA).cell (i := 4) rfl
  have ca5 := (unhide HA).cell (i := 5) rfl
  have cc0 := (unhide HC).cell (i := 0) rfl
  have cc1 := (unhide HC).cell (i := 1) rfl
  have cc2 := (unhide HC).cell (i := 2) rfl
  have cc3 := (unhide HC).cell (i := 3) rfl
  have cc4 := (unhide HC).cell (i := 4) rfl
  have cc5 := (unhide HC).cell (i := 5) rfl
  have cp0 := (unhide HP).cell (i := 0) rfl
  have cp1 := (unhide HP).cell (i := 1) rfl
  have cp2 := (unhide HP).cell (i := 2) rfl
  have cq0 := (unhide HQ).cell (i := 0) rfl
  have cq1 := (unhide HQ).cell (i := 1) rfl
  have cq2 := (unhide HQ).cell (i := 2) rfl
  have hEq := eql_spot p0 p1 p2 q0 q1 q2
  have hGd := fun u v w => run_eqGuard_agg (P := Try.prog) w .eql 29 u v #[.int .i64 p0, .int .i64 p1, .int .i64 p2] #[.int .i64 q0, .int .i64 q1, .int .i64 q2] Try.eqgSpot
  by_cases hpq : p0 = q0 ∧ p1 = q1 ∧ p2 = q2
  · rw [decide_eq_true hpq] at hEq
    have er := unhide KS hpq
    subst er
    clear hpq KS KN
    go_wp2_with fail
    refine (unhide QB _).mono ?_
    rintro e w9 ⟨rfl, hb⟩
    replace HW := hide (Below.step (unhide HW) hb)
    clear hb QB
    go_wp2
    go_ret
    exact ⟨rfl, unhide HW⟩
  rw [decide_eq_false hpq] at hEq
  replace KN := hide (unhide KN hpq)
  clear hpq KS
  have pz := ((unhide HP).step (Below.alloc1 w8 (.cells #[.int .i64 q0, .int .i64 q1, .int .i64 q2] 29))).cell (i := 0) rfl
  have hA := Below.alloc1 w8 (.cells #[.int .i64 (p0 + 9), .int .i64 q1, .int .i64 q2] 29)
  have HR := hide (ownV_alloc w8 #[.int .i64 (p0 + 9), .int .i64 q1, .int .i64 q2] 29)
  replace HW := hide (Below.step (unhide HW) hA)
  replace HA := hide ((unhide HA).step hA)
  replace HC := hide ((unhide HC).step hA)
  replace HP := hide ((unhide HP).step hA)
  replace HQ := hide ((unhide HQ).step hA)
  clear hA
  have q9 : IntKind.i64.wrap (p0 + 9) = p0 + 9 := by rw [IntKind.wrap_i64]; omega
  have hEq2 := hEq
  clear hEq2
  have ca0 := (unhide HA).cell (i := 0) rfl
  have ca1 := (unhide HA).cell (i := 1) rfl
  have ca2 := (unhide HA).cell (i := 2) rfl
  have ca3 := (unhide HA).cell (i := 3) rfl
  have ca4 := (unhide HA).cell (i := 4) rfl
  have ca5 := (unhide HA).cell (i := 5) rfl
  have cc0 := (unhide HC).cell (i := 0) rfl
  have cc1 := (unhide HC).cell (i := 1) rfl
  have cc2 := (unhide HC).cell (i := 2) rfl
  have cc3 := (unhide HC).cell (i := 3) rfl
  have cc4 := (unhide HC).cell (i := 4) rfl
  have cc5 := (unhide HC).cell (i := 5) rfl
  have cp0 := (unhide HP).cell (i := 0) rfl
  have cp1 := (unhide HP).cell (i := 1) rfl
  have cp2 := (unhide HP).cell (i := 2) rfl
  have cq0 := (unhide HQ).cell (i := 0) rfl
  have cq1 := (unhide HQ).cell (i := 1) rfl
  have cq2 := (unhide HQ).cell (i := 2) rfl
  have cr0 := (unhide HR).cell (i := 0) rfl
  have cr1 := (unhide HR).cell (i := 1) rfl
  have cr2 := (unhide HR).cell (i := 2) rfl
  go_wp2_with fail
  refine (unhide K2 _).mono ?_
  rintro e w9 ⟨rfl, hb⟩
  replace HW := hide (Below.step (unhide HW) hb)
  replace HA := hide ((unhide HA).step hb)
  replace HC := hide ((unhide HC).step hb)
  replace HP := hide ((unhide HP).step hb)
  replace HQ := hide ((unhide HQ).step hb)
  replace HR := hide ((unhide HR).step hb)
  clear hb K2
  clear ca0 ca1 ca2 ca3 ca4 ca5 cc0 cc1 cc2 cc3 cc4 cc5 cp0 cp1 cp2 cq0 cq1 cq2 cr0 cr1 cr2
  have ca0 := (unhide HA).cell (i := 0) rfl
  have ca1 := (unhide HA).cell (i := 1) rfl
  have ca2 := (unhide HA).cell (i := 2) rfl
  have ca3 := (unhide HA).cell (i := 3) rfl
  have ca4 := (unhide HA).cell (i := 4) rfl
  have ca5 := (unhide HA).cell (i := 5) rfl
  have cc0 := (unhide HC).cell (i := 0) rfl
  have cc1 := (unhide HC).cell (i := 1) rfl
  have cc2 := (unhide HC).cell (i := 2) rfl
  have cc3 := (unhide HC).cell (i := 3) rfl
  have cc4 := (unhide HC).cell (i := 4) rfl
  have cc5 := (unhide HC).cell (i := 5) rfl
  have cp0 := (unhide HP).cell (i := 0) rfl
  have cp1 := (unhide HP).cell (i := 1) rfl
  have cp2 := (unhide HP).cell (i := 2) rfl
  have cq0 := (unhide HQ).cell (i := 0) rfl
  have cq1 := (unhide HQ).cell (i := 1) rfl
  have cq2 := (unhide HQ).cell (i := 2) rfl
  have cr0 := (unhide HR).cell (i := 0) rfl
  have cr1 := (unhide HR).cell (i := 1) rfl
  have cr2 := (unhide HR).cell (i := 2) rfl
  cases r with
  | true =>
    go_wp2_with fail
    refine (unhide QB _).mono ?_
    rintro e w10 ⟨rfl, hb⟩
    replace HW := hide (Below.step (unhide HW) hb)
    replace HA := hide ((unhide HA).step hb)
    replace HC := hide ((unhide HC).step hb)
    replace HP := hide ((unhide HP).step hb)
    replace HQ := hide ((unhide HQ).step hb)
    replace HR := hide ((unhide HR).step hb)
    clear hb QB
    clear ca0 ca1 ca2 ca3 ca4 ca5 cc0 cc1 cc2 cc3 cc4 cc5 cp0 cp1 cp2 cq0 cq1 cq2 cr0 cr1 cr2
    have ca0 := (unhide HA).cell (i := 0) rfl
    have ca1 := (unhide HA).cell (i := 1) rfl
    have ca2 := (unhide HA).cell (i := 2) rfl
    have ca3 := (unhide HA).cell (i := 3) rfl
    have ca4 := (unhide HA).cell (i := 4) rfl
    have ca5 := (unhide HA).cell (i := 5) rfl
    have cc0 := (unhide HC).cell (i := 0) rfl
    have cc1 := (unhide HC).cell (i := 1) rfl
    have cc2 := (unhide HC).cell (i := 2) rfl
    have cc3 := (unhide HC).cell (i := 3) rfl
    have cc4 := (unhide HC).cell (i := 4) rfl
    have cc5 := (unhide HC).cell (i := 5) rfl
    have cp0 := (unhide HP).cell (i := 0) rfl
    have cp1 := (unhide HP).cell (i := 1) rfl
    have cp2 := (unhide HP).cell (i := 2) rfl
    have cq0 := (unhide HQ).cell (i := 0) rfl
    have cq1 := (unhide HQ).cell (i := 1) rfl
    have cq2 := (unhide HQ).cell (i := 2) rfl
    have cr0 := (unhide HR).cell (i := 0) rfl
    have cr1 := (unhide HR).cell (i := 1) rfl
    have cr2 := (unhide HR).cell (i := 2) rfl
    go_wp2_with fail
    refine (unhide K3 _).mono ?_
    rintro e w11 ⟨rfl, hb⟩
    replace HW := hide (Below.step (unhide HW) hb)
    clear hb K3
    have hu : u = 0 ∨ u = 1 ∨ u = 2 ∨ u = 3 := by omega
    rcases hu with rfl | rfl | rfl | rfl <;> (go_wp2; go_ret; exact ⟨rfl, unhide HW⟩)
  | false =>
    go_wp2_with fail
    refine (unhide QB _).mono ?_
    rintro e w10 ⟨rfl, hb⟩
    replace HW := hide (Below.step (unhide HW) hb)
    replace HA := hide ((unhide HA).step hb)
    replace HC := hide ((unhide HC).step hb)
    replace HP := hide ((unhide HP).step hb)
    replace HQ := hide ((unhide HQ).step hb)
    replace HR := hide ((unhide HR).step hb)
    clear hb QB
    clear ca0 ca1 ca2 ca3 ca4 ca5 cc0 cc1 cc2 cc3 cc4 cc5 cp0 cp1 cp2 cq0 cq1 cq2 cr0 cr1 cr2
    have ca0 := (unhide HA).cell (i := 0) rfl
    have ca1 := (unhide HA).cell (i := 1) rfl
    have ca2 := (unhide HA).cell (i := 2) rfl
    have ca3 := (unhide HA).cell (i := 3) rfl
    have ca4 := (unhide HA).cell (i := 4) rfl
    have ca5 := (unhide HA).cell (i := 5) rfl
    have cc0 := (unhide HC).cell (i := 0) rfl
    have cc1 := (unhide HC).cell (i := 1) rfl
    have cc2 := (unhide HC).cell (i := 2) rfl
    have cc3 := (unhide HC).cell (i := 3) rfl
    have cc4 := (unhide HC).cell (i := 4) rfl
    have cc5 := (unhide HC).cell (i := 5) rfl
    have cp0 := (unhide HP).cell (i := 0) rfl
    have cp1 := (unhide HP).cell (i := 1) rfl
    have cp2 := (unhide HP).cell (i := 2) rfl
    have cq0 := (unhide HQ).cell (i := 0) rfl
    have cq1 := (unhide HQ).cell (i := 1) rfl
    have cq2 := (unhide HQ).cell (i := 2) rfl
    have cr0 := (unhide HR).cell (i := 0) rfl
    have cr1 := (unhide HR).cell (i := 1) rfl
    have cr2 := (unhide HR).cell (i := 2) rfl
    go_wp2_with fail
    refine (unhide K3 _).mono ?_
    rintro e w11 ⟨rfl, hb⟩
    replace HW := hide (Below.step (unhide HW) hb)
    clear hb K3
    have hu : u = 0 ∨ u = 1 ∨ u = 2 ∨ u = 3 := by omega
    rcases hu with rfl | rfl | rfl | rfl
    · exact absurd (unhide KN rfl) (by decide)
    · go_wp2
      go_ret
      exact ⟨rfl, unhide HW⟩
    · go_wp2
      go_ret
      exact ⟨rfl, unhide HW⟩
    · go_wp2
      go_ret
      exact ⟨rfl, unhide HW⟩

end Go.Proofs.Ytdkfleodgdpckaa

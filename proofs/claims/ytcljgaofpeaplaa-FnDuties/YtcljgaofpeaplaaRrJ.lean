/- The methods of a meeting: contracts. Written by wip/mkrrA.py. -/
import Derived.Test.YtcljgaofpeaplaaRrG
namespace Go.Proofs.Ytcljgaofpeaplaa
open Go.RowKit

/-- A meeting: two ships as the first one sees it. -/
def vM (ax ay au av ak ad cx cy cu cv ck cd : Int) : Value := .agg #[.int .i64 ax, .int .i64 ay, .int .i64 au, .int .i64 av, .int .i64 ak, .int .i64 ad, .int .i64 cx, .int .i64 cy, .int .i64 cu, .int .i64 cv, .int .i64 ck, .int .i64 cd]
/-- They are not closing. -/
def prtB (ax ay au av _ak _ad cx cy cu cv _ck _cd : Int) : Bool := decide (0 ≤ (cx - ax) * (cu - au) + (cy - ay) * (cv - av))

set_option maxRecDepth 10000 in
set_option maxHeartbeats 6400000 in
theorem isBad_any (ax ay au av ak ad cx cy cu cv ck cd : Int) (w : World)  : Calls Try.prog 17 #[vM ax ay au av ak ad cx cy cu cv ck cd] w fun e w' => e = .returned (.bool (!(shipB ax ay au av ak ad && shipB cx cy cu cv ck cd))) ∧ Below w.heap.size w w' := by
  have HB := hide (bk_one w #[.int .i64 ax, .int .i64 ay, .int .i64 au, .int .i64 av, .int .i64 ak, .int .i64 ad, .int .i64 cx, .int .i64 cy, .int .i64 cu, .int .i64 cv, .int .i64 ck, .int .i64 cd] 47)
  unfold vM
  have HX := hide fun W => implShipOk_any ax ay au av ak ad W
  have HY := hide fun W => implShipOk_any cx cy cu cv ck cd W
  unfold vShip at HX HY
  generalize shipB ax ay au av ak ad = x at HX ⊢
  generalize shipB cx cy cu cv ck cd = y at HY ⊢
  go_enter Try.func17, Try.ntmps17
  go_wp2_with fail
  refine (unhide HX _).mono ?_
  rintro e w1 ⟨rfl, hb⟩
  replace HB := hide ((unhide HB).step hb)
  clear hb HX
  cases x
  case false =>
    have HW := hide (unhide HB).below
    go_wp2
    go_ret
    exact ⟨ret_bool (by rfl), unhide HW⟩
  have hq := (unhide HB).ownV (k := 0) rfl
  have c0 := hq.cell (i := 0) rfl
  have c1 := hq.cell (i := 1) rfl
  have c2 := hq.cell (i := 2) rfl
  have c3 := hq.cell (i := 3) rfl
  have c4 := hq.cell (i := 4) rfl
  have c5 := hq.cell (i := 5) rfl
  have c6 := hq.cell (i := 6) rfl
  have c7 := hq.cell (i := 7) rfl
  have c8 := hq.cell (i := 8) rfl
  have c9 := hq.cell (i := 9) rfl
  have c10 := hq.cell (i := 10) rfl
  have c11 := hq.cell (i := 11) rfl
  clear hq
  go_wp2_with fail
  refine (unhide HY _).mono ?_
  rintro e w2 ⟨rfl, hb⟩
  replace HB := hide ((unhide HB).step hb)
  clear hb HY c0 c1 c2 c3 c4 c5 c6 c7 c8 c9 c10 c11
  have HW := hide (unhide HB).below
  cases y <;> (go_wp2; go_ret; exact ⟨ret_bool (by rfl), unhide HW⟩)

set_option maxRecDepth 10000 in
set_option maxHeartbeats 6400000 in
theorem overtakes_any (ax ay au av ak ad cx cy cu cv ck cd : Int) (w : World)  : Calls Try.prog 19 #[vM ax ay au av ak ad cx cy cu cv ck cd] w fun e w' => e = .returned (.bool (behB ax ay au av ak ad cx cy cu cv ck cd && !behB cx cy cu cv ck cd ax ay au av ak ad)) ∧ Below w.heap.size w w' := by
  have HB := hide (bk_one w #[.int .i64 ax, .int .i64 ay, .int .i64 au, .int .i64 av, .int .i64 ak, .int .i64 ad, .int .i64 cx, .int .i64 cy, .int .i64 cu, .int .i64 cv, .int .i64 ck, .int .i64 cd] 47)
  unfold vM
  have HX := hide fun W => implBehind_any ax ay au av ak ad cx cy cu cv ck cd W
  have HY := hide fun W => implBehind_any cx cy cu cv ck cd ax ay au av ak ad W
  unfold vShip at HX HY
  generalize behB ax ay au av ak ad cx cy cu cv ck cd = x at HX ⊢
  generalize behB cx cy cu cv ck cd ax ay au av ak ad = y at HY ⊢
  go_enter Try.func19, Try.ntmps19
  go_wp2_with fail
  refine (unhide HX _).mono ?_
  rintro e w1 ⟨rfl, hb⟩
  replace HB := hide ((unhide HB).step hb)
  clear hb HX
  cases x
  case false =>
    have HW := hide (unhide HB).below
    go_wp2
    go_ret
    exact ⟨ret_bool (by rfl), unhide HW⟩
  have hq := (unhide HB).ownV (k := 0) rfl
  have c0 := hq.cell (i := 0) rfl
  have c1 := hq.cell (i := 1) rfl
  have c2 := hq.cell (i := 2) rfl
  have c3 := hq.cell (i := 3) rfl
  have c4 := hq.cell (i := 4) rfl
  have c5 := hq.cell (i := 5) rfl
  have c6 := hq.cell (i := 6) rfl
  have c7 := hq.cell (i := 7) rfl
  have c8 := hq.cell (i := 8) rfl
  have c9 := hq.cell (i := 9) rfl
  have c10 := hq.cell (i := 10) rfl
  have c11 := hq.cell (i := 11) rfl
  clear hq
  go_wp2_with fail
  refine (unhide HY _).mono ?_
  rintro e w2 ⟨rfl, hb⟩
  replace HB := hide ((unhide HB).step hb)
  clear hb HY c0 c1 c2 c3 c4 c5 c6 c7 c8 c9 c10 c11
  have HW := hide (unhide HB).below
  cases y <;> (go_wp2; go_ret; exact ⟨ret_bool (by rfl), unhide HW⟩)

set_option maxRecDepth 10000 in
set_option maxHeartbeats 6400000 in
theorem hasOnRight_any (ax ay au av ak ad cx cy cu cv ck cd : Int) (w : World) (h1 : shipB ax ay au av ak ad = true) (h2 : shipB cx cy cu cv ck cd = true) : Calls Try.prog 22 #[vM ax ay au av ak ad cx cy cu cv ck cd] w fun e w' => e = .returned (.bool (rgtB ax ay au av ak ad cx cy cu cv ck cd && !rgtB cx cy cu cv ck cd ax ay au av ak ad)) ∧ Below w.heap.size w w' := by
  have HB := hide (bk_one w #[.int .i64 ax, .int .i64 ay, .int .i64 au, .int .i64 av, .int .i64 ak, .int .i64 ad, .int .i64 cx, .int .i64 cy, .int .i64 cu, .int .i64 cv, .int .i64 ck, .int .i64 cd] 47)
  unfold vM
  have HX := hide fun W => implRight_any cx cy cu cv ck cd ax ay au av ak ad W h2 h1
  have HY := hide fun W => implRight_any ax ay au av ak ad cx cy cu cv ck cd W h1 h2
  unfold vShip at HX HY
  generalize rgtB ax ay au av ak ad cx cy cu cv ck cd = x at HX ⊢
  generalize rgtB cx cy cu cv ck cd ax ay au av ak ad = y at HY ⊢
  clear h1 h2
  go_enter Try.func22, Try.ntmps22
  go_wp2_with fail
  refine (unhide HX _).mono ?_
  rintro e w1 ⟨rfl, hb⟩
  replace HB := hide ((unhide HB).step hb)
  clear hb HX
  cases x
  case false =>
    have HW := hide (unhide HB).below
    go_wp2
    go_ret
    exact ⟨ret_bool (by rfl), unhide HW⟩
  have hq := (unhide HB).ownV (k := 0) rfl
  have c0 := hq.cell (i := 0) rfl
  have c1 := hq.cell (i := 1) rfl
  have c2 := hq.cell (i := 2) rfl
  have c3 := hq.cell (i := 3) rfl
  have c4 := hq.cell (i := 4) rfl
  have c5 := hq.cell (i := 5) rfl
  have c6 := hq.cell (i := 6) rfl
  have c7 := hq.cell (i := 7) rfl
  have c8 := hq.cell (i := 8) rfl
  have c9 := hq.cell (i := 9) rfl
  have c10 := hq.cell (i := 10) rfl
  have c11 := hq.cell (i := 11) rfl
  clear hq
  go_wp2_with fail
  refine (unhide HY _).mono ?_
  rintro e w2 ⟨rfl, hb⟩
  replace HB := hide ((unhide HB).step hb)
  clear hb HY c0 c1 c2 c3 c4 c5 c6 c7 c8 c9 c10 c11
  have HW := hide (unhide HB).below
  cases y <;> (go_wp2; go_ret; exact ⟨ret_bool (by rfl), unhide HW⟩)

set_option maxRecDepth 10000 in
set_option maxHeartbeats 6400000 in
theorem isLessInSort_any (ax ay au av ak ad cx cy cu cv ck cd : Int) (w : World)  : Calls Try.prog 20 #[vM ax ay au av ak ad cx cy cu cv ck cd] w fun e w' => e = .returned (.bool (decide (ak < ck))) ∧ Below w.heap.size w w' := by
  have HB := hide (bk_one w #[.int .i64 ax, .int .i64 ay, .int .i64 au, .int .i64 av, .int .i64 ak, .int .i64 ad, .int .i64 cx, .int .i64 cy, .int .i64 cu, .int .i64 cv, .int .i64 ck, .int .i64 cd] 47)
  unfold vM
  have HW := hide (unhide HB).below
  go_enter Try.func20, Try.ntmps20
  go_wp2
  go_ret
  exact ⟨rfl, unhide HW⟩

set_option maxRecDepth 10000 in
set_option maxHeartbeats 6400000 in
theorem isLessInDraft_any (ax ay au av ak ad cx cy cu cv ck cd : Int) (w : World)  : Calls Try.prog 23 #[vM ax ay au av ak ad cx cy cu cv ck cd] w fun e w' => e = .returned (.bool (decide (ad < cd))) ∧ Below w.heap.size w w' := by
  have HB := hide (bk_one w #[.int .i64 ax, .int .i64 ay, .int .i64 au, .int .i64 av, .int .i64 ak, .int .i64 ad, .int .i64 cx, .int .i64 cy, .int .i64 cu, .int .i64 cv, .int .i64 ck, .int .i64 cd] 47)
  unfold vM
  have HW := hide (unhide HB).below
  go_enter Try.func23, Try.ntmps23
  go_wp2
  go_ret
  exact ⟨rfl, unhide HW⟩

set_option maxRecDepth 10000 in
set_option maxHeartbeats 6400000 in
theorem isEndOn_any (ax ay au av ak ad cx cy cu cv ck cd : Int) (w : World)  : Calls Try.prog 21 #[vM ax ay au av ak ad cx cy cu cv ck cd] w fun e w' => e = .returned (.bool (hdB ax ay au av ak ad cx cy cu cv ck cd && (ak == 1 && ck == 1))) ∧ Below w.heap.size w w' := by
  have HB := hide (bk_one w #[.int .i64 ax, .int .i64 ay, .int .i64 au, .int .i64 av, .int .i64 ak, .int .i64 ad, .int .i64 cx, .int .i64 cy, .int .i64 cu, .int .i64 cv, .int .i64 ck, .int .i64 cd] 47)
  unfold vM
  have HX := hide fun W => implHeadOn_any ax ay au av ak ad cx cy cu cv ck cd W
  unfold vShip at HX
  generalize hdB ax ay au av ak ad cx cy cu cv ck cd = x at HX ⊢
  go_enter Try.func21, Try.ntmps21
  go_wp2_with fail
  refine (unhide HX _).mono ?_
  rintro e w1 ⟨rfl, hb⟩
  replace HB := hide ((unhide HB).step hb)
  clear hb HX
  have HW := hide (unhide HB).below
  cases x
  · go_wp2
    go_ret
    exact ⟨ret_bool (by rfl), unhide HW⟩
  have hq := (unhide HB).ownV (k := 0) rfl
  have c0 := hq.cell (i := 0) rfl
  have c1 := hq.cell (i := 1) rfl
  have c2 := hq.cell (i := 2) rfl
  have c3 := hq.cell (i := 3) rfl
  have c4 := hq.cell (i := 4) rfl
  have c5 := hq.cell (i := 5) rfl
  have c6 := hq.cell (i := 6) rfl
  have c7 := hq.cell (i := 7) rfl
  have c8 := hq.cell (i := 8) rfl
  have c9 := hq.cell (i := 9) rfl
  have c10 := hq.cell (i := 10) rfl
  have c11 := hq.cell (i := 11) rfl
  clear hq
  cases h3 : (ak == 1)
  · go_wp2
    go_ret
    exact ⟨ret_bool (by rw [h3]; rfl), unhide HW⟩
  cases h4 : (ck == 1) <;> (go_wp2; go_ret; exact ⟨ret_bool (by rw [h3, h4]; rfl), unhide HW⟩)

def EPar (ax ay au av ak ad cx cy cu cv ck cd p q r s : Int) (w : World) (L : Nat → Bool) (us : Nat → Value) : Nat → Option (Nat × List Value)
  | 0 => some (w.heap.size, [.int .i64 ax, .int .i64 ay, .int .i64 au, .int .i64 av, .int .i64 ak, .int .i64 ad, .int .i64 cx, .int .i64 cy, .int .i64 cu, .int .i64 cv, .int .i64 ck, .int .i64 cd])
  | 1 => if L 12 then some ((gOf (us 3)), (if L 14 then [.int .i64 p, .int .i64 q] else [.int .i64 0, .int .i64 0])) else none
  | 2 => if L 13 then some ((gOf (us 4)), (if L 15 then [.int .i64 r, .int .i64 s] else [.int .i64 0, .int .i64 0])) else none
  | _ => none
def FPar (ax ay au av ak ad cx cy cu cv ck cd p q r s : Int) (w : World) : FL := [(0, 5, .pointer (some ⟨w.heap.size, 6, none⟩)), (1, 6, vShip cx cy cu cv ck cd), (2, 7, .pointer (some ⟨w.heap.size, 0, none⟩)), (3, 8, vShip ax ay au av ak ad), (4, 9, vV p q), (5, 10, .pointer (some ⟨w.heap.size, 6, none⟩)), (6, 11, vShip cx cy cu cv ck cd), (7, 12, vV cu cv), (8, 13, .pointer (some ⟨w.heap.size, 0, none⟩)), (9, 14, vShip ax ay au av ak ad), (10, 15, vV au av), (11, 16, vV r s)]
def RPar (ax ay au av ak ad cx cy cu cv ck cd p q r s : Int) (w : World) (L : Nat → Bool) (us : Nat → Value) (W : World) : Prop :=
  Facts L us (FPar ax ay au av ak ad cx cy cu cv ck cd p q r s w) ∧ (L 12 = true → us 3 = .pointer (some ⟨gOf (us 3), 0, none⟩)) ∧ (L 13 = true → us 4 = .pointer (some ⟨gOf (us 4), 0, none⟩)) ∧ (L 14 = true → L 12 = true) ∧ (L 15 = true → L 13 = true) ∧ Bk w W (EPar ax ay au av ak ad cx cy cu cv ck cd p q r s w L us)
def XPar (ax ay au av ak ad cx cy cu cv ck cd p q r s : Int) (w : World) (g3 g4 : Nat) : Nat → Option (Nat × List Value)
  | 0 => some (w.heap.size, [.int .i64 ax, .int .i64 ay, .int .i64 au, .int .i64 av, .int .i64 ak, .int .i64 ad, .int .i64 cx, .int .i64 cy, .int .i64 cu, .int .i64 cv, .int .i64 ck, .int .i64 cd])
  | 1 => some (g3, [.int .i64 p, .int .i64 q])
  | 2 => some (g4, [.int .i64 r, .int .i64 s])
  | _ => none
set_option maxRecDepth 10000 in
set_option maxHeartbeats 6400000 in
theorem isParting_any (ax ay au av ak ad cx cy cu cv ck cd : Int) (w : World) (h1 : shipB ax ay au av ak ad = true) (h2 : shipB cx cy cu cv ck cd = true) : Calls Try.prog 18 #[vM ax ay au av ak ad cx cy cu cv ck cd] w fun e w' => e = .returned (.bool (prtB ax ay au av ak ad cx cy cu cv ck cd)) ∧ Below w.heap.size w w' := by
  have HB := hide (bk_one w #[.int .i64 ax, .int .i64 ay, .int .i64 au, .int .i64 av, .int .i64 ak, .int .i64 ad, .int .i64 cx, .int .i64 cy, .int .i64 cu, .int .i64 cv, .int .i64 ck, .int .i64 cd] 47)
  unfold vM
  obtain ⟨ba0, ba1, ba2, ba3, ba4, ba5, ba6, ba7⟩ := shipB_bd h1
  obtain ⟨bc0, bc1, bc2, bc3, bc4, bc5, bc6, bc7⟩ := shipB_bd h2
  have HBe := hide fun W => implBearing_any cx cy cu cv ck cd ax ay au av ak ad W bc0 bc1 bc2 bc3 ba0 ba1 ba2 ba3
  have HW1 := hide fun W => implWay_any ax ay au av ak ad W
  have HW2 := hide fun W => implWay_any cx cy cu cv ck cd W
  have HLs := hide fun W => implLess_any cu cv au av W (by omega) (by omega) (by omega) (by omega) (by omega) (by omega) (by omega) (by omega)
  obtain ⟨p, ep⟩ : ∃ z, z = cx - ax := ⟨_, rfl⟩
  obtain ⟨q, eq⟩ : ∃ z, z = cy - ay := ⟨_, rfl⟩
  obtain ⟨r, er⟩ : ∃ z, z = cu - au := ⟨_, rfl⟩
  obtain ⟨s, es⟩ : ∃ z, z = cv - av := ⟨_, rfl⟩
  have HDo := hide fun W => implDot_any p q r s W (by omega) (by omega) (by omega) (by omega)
  have HT : Hid (prtB ax ay au av ak ad cx cy cu cv ck cd = decide (0 ≤ p * r + q * s)) := by show _ = _; unfold prtB; rw [ep, eq, er, es]
  rw [← ep, ← eq] at HBe
  rw [← er, ← es] at HLs
  clear ep eq er es h1 h2 ba0 ba1 ba2 ba3 ba4 ba5 ba6 ba7 bc0 bc1 bc2 bc3 bc4 bc5 bc6 bc7
  have HZ : Hid ((p == 0 && q == 0) = true → decide (0 ≤ p * r + q * s) = true) := by
    show _ → _
    intro h
    simp only [Bool.and_eq_true, beq_iff_eq] at h
    rw [h.1, h.2]
    simp
  obtain ⟨d, ed⟩ : ∃ z, z = p * r + q * s := ⟨_, rfl⟩
  rw [← ed] at HDo HT HZ
  clear ed
  go_enter Try.func18, Try.ntmps18
  go_wp2_with fail
  have HB0 : Hid (∀ us, Bk w _ (EPar ax ay au av ak ad cx cy cu cv ck cd p q r s w (fun _ => false) us)) := hide (fun us => ((unhide HB)).congr (fun k => by rcases k with _ | _ | _ | k <;> simp [EPar, E1]))
  refine wp_region_slots [5, 6, 7, 8, 9, 10, 11, 12, 13, 14, 15, 16, 3, 4] (RPar ax ay au av ak ad cx cy cu cv ck cd p q r s w) (by kernel_rfl) (by kernel_rfl) (by decide) (by kernel_rfl) ?_ ?_ ?_
  · intro us
    exact ⟨facts_start us _, fun h => (by cases h), fun h => (by cases h), fun h => (by cases h), fun h => (by cases h), (unhide HB0 us).drew⟩
  · clear HB0
    refine StepsR.cons 1 rfl ?_ ?_
    · intro L us W hi hdep hR Kx hNx
      have hF := hide hR.1
      have f12 := hide hR.2.1
      have f13 := hide hR.2.2.1
      have f14 := hide hR.2.2.2.1
      have f15 := hide hR.2.2.2.2.1
      have hB := hR.2.2.2.2.2
      clear hR
      clear hdep
      have HB := hide hB
      clear hB
      simp only [fillA, Act.put, List.setIfInBounds_toArray, List.set_cons_zero, List.set_cons_succ] at hNx ⊢
      rw [if_pos (by rfl)]
      go_simp
      first | refine hNx _ _ ?_ | skip
      exact ⟨(unhide hF).step rfl rfl, keepG (unhide f12) (by decide) (by decide), keepG (unhide f13) (by decide) (by decide), keepL (unhide f14) (by decide), keepL (unhide f15) (by decide), (unhide HB).congr (fun k => by rcases k with _ | _ | _ | k <;> simp [EPar])⟩
    refine StepsR.cons 2 rfl ?_ ?_
    · intro L us W hi hdep hR Kx hNx
      have hF := hide hR.1
      have f12 := hide hR.2.1
      have f13 := hide hR.2.2.1
      have f14 := hide hR.2.2.2.1
      have f15 := hide hR.2.2.2.2.1
      have hB := hR.2.2.2.2.2
      clear hR
      have d0 : L 0 = true := hdep 0 (by kernel_rfl)
      clear hdep
      have hE : EPar ax ay au av ak ad cx cy cu cv ck cd p q r s w L us 0 = some (w.heap.size, [.int .i64 ax, .int .i64 ay, .int .i64 au, .int .i64 av, .int .i64 ak, .int .i64 ad, .int .i64 cx, .int .i64 cy, .int .i64 cu, .int .i64 cv, .int .i64 ck, .int .i64 cd]) := by simp [EPar]
      have e5 : us 5 = .pointer (some ⟨w.heap.size, 6, none⟩) := (unhide hF).get (k := 0) rfl d0
      have hO := hB.ownV hE
      have c0 := hO.cell (i := 0) rfl
      have c1 := hO.cell (i := 1) rfl
      have c2 := hO.cell (i := 2) rfl
      have c3 := hO.cell (i := 3) rfl
      have c4 := hO.cell (i := 4) rfl
      have c5 := hO.cell (i := 5) rfl
      have c6 := hO.cell (i := 6) rfl
      have c7 := hO.cell (i := 7) rfl
      have c8 := hO.cell (i := 8) rfl
      have c9 := hO.cell (i := 9) rfl
      have c10 := hO.cell (i := 10) rfl
      have c11 := hO.cell (i := 11) rfl
      clear hO
      have HB := hide hB
      clear hB
      have HE := hide hE
      clear hE
      simp only [fillA, Act.put, List.setIfInBounds_toArray, List.set_cons_zero, List.set_cons_succ] at hNx ⊢
      simp only [e5] at hNx ⊢
      clear e5
      rw [if_pos (by rfl)]
      go_simp
      first | refine hNx _ _ ?_ | skip
      exact ⟨(unhide hF).step rfl rfl, keepG (unhide f12) (by decide) (by decide), keepG (unhide f13) (by decide) (by decide), keepL (unhide f14) (by decide), keepL (unhide f15) (by decide), (unhide HB).congr (fun k => by rcases k with _ | _ | _ | k <;> simp [EPar])⟩
    refine StepsR.cons 3 rfl ?_ ?_
    · intro L us W hi hdep hR Kx hNx
      have hF := hide hR.1
      have f12 := hide hR.2.1
      have f13 := hide hR.2.2.1
      have f14 := hide hR.2.2.2.1
      have f15 := hide hR.2.2.2.2.1
      have hB := hR.2.2.2.2.2
      clear hR
      clear hdep
      have HB := hide hB
      clear hB
      simp only [fillA, Act.put, List.setIfInBounds_toArray, List.set_cons_zero, List.set_cons_succ] at hNx ⊢
      rw [if_pos (by rfl)]
      go_simp
      first | refine hNx _ _ ?_ | skip
      exact ⟨(unhide hF).step rfl rfl, keepG (unhide f12) (by decide) (by decide), keepG (unhide f13) (by decide) (by decide), keepL (unhide f14) (by decide), keepL (unhide f15) (by decide), (unhide HB).congr (fun k => by rcases k with _ | _ | _ | k <;> simp [EPar])⟩
    refine StepsR.cons 4 rfl ?_ ?_
    · intro L us W hi hdep hR Kx hNx
      have hF := hide hR.1
      have f12 := hide hR.2.1
      have f13 := hide hR.2.2.1
      have f14 := hide hR.2.2.2.1
      have f15 := hide hR.2.2.2.2.1
      have hB := hR.2.2.2.2.2
      clear hR
      have d2 : L 2 = true := hdep 2 (by kernel_rfl)
      clear hdep
      have hE : EPar ax ay au av ak ad cx cy cu cv ck cd p q r s w L us 0 = some (w.heap.size, [.int .i64 ax, .int .i64 ay, .int .i64 au, .int .i64 av, .int .i64 ak, .int .i64 ad, .int .i64 cx, .int .i64 cy, .int .i64 cu, .int .i64 cv, .int .i64 ck, .int .i64 cd]) := by simp [EPar]
      have e7 : us 7 = .pointer (some ⟨w.heap.size, 0, none⟩) := (unhide hF).get (k := 2) rfl d2
      have hO := hB.ownV hE
      have c0 := hO.cell (i := 0) rfl
      have c1 := hO.cell (i := 1) rfl
      have c2 := hO.cell (i := 2) rfl
      have c3 := hO.cell (i := 3) rfl
      have c4 := hO.cell (i := 4) rfl
      have c5 := hO.cell (i := 5) rfl
      have c6 := hO.cell (i := 6) rfl
      have c7 := hO.cell (i := 7) rfl
      have c8 := hO.cell (i := 8) rfl
      have c9 := hO.cell (i := 9) rfl
      have c10 := hO.cell (i := 10) rfl
      have c11 := hO.cell (i := 11) rfl
      clear hO
      have HB := hide hB
      clear hB
      have HE := hide hE
      clear hE
      simp only [fillA, Act.put, List.setIfInBounds_toArray, List.set_cons_zero, List.set_cons_succ] at hNx ⊢
      simp only [e7] at hNx ⊢
      clear e7
      rw [if_pos (by rfl)]
      go_simp
      first | refine hNx _ _ ?_ | skip
      exact ⟨(unhide hF).step rfl rfl, keepG (unhide f12) (by decide) (by decide), keepG (unhide f13) (by decide) (by decide), keepL (unhide f14) (by decide), keepL (unhide f15) (by decide), (unhide HB).congr (fun k => by rcases k with _ | _ | _ | k <;> simp [EPar])⟩
    refine StepsR.cons 5 rfl ?_ ?_
    · intro L us W hi hdep hR Kx hNx
      have hF := hide hR.1
      have f12 := hide hR.2.1
      have f13 := hide hR.2.2.1
      have f14 := hide hR.2.2.2.1
      have f15 := hide hR.2.2.2.2.1
      have hB := hR.2.2.2.2.2
      clear hR
      have d1 : L 1 = true := hdep 1 (by kernel_rfl)
      have d3 : L 3 = true := hdep 3 (by kernel_rfl)
      clear hdep
      have e6 : us 6 = vShip cx cy cu cv ck cd := (unhide hF).get (k := 1) rfl d1
      have e8 : us 8 = vShip ax ay au av ak ad := (unhide hF).get (k := 3) rfl d3
      have HB := hide hB
      clear hB
      simp only [fillA, Act.put, List.setIfInBounds_toArray, List.set_cons_zero, List.set_cons_succ] at hNx ⊢
      simp only [e6, e8] at hNx ⊢
      clear e6 e8
      rw [if_pos (by rfl)]
      have HC := hide (unhide HBe W)
      go_simp
      refine (unhide HC).mono ?_
      rintro e W' ⟨rfl, hb⟩
      replace HB := hide ((unhide HB).step hb)
      clear hb HC
      go_wp2_with fail
      first | refine hNx _ _ ?_ | skip
      exact ⟨(unhide hF).step rfl rfl, keepG (unhide f12) (by decide) (by decide), keepG (unhide f13) (by decide) (by decide), keepL (unhide f14) (by decide), keepL (unhide f15) (by decide), (unhide HB).congr (fun k => by rcases k with _ | _ | _ | k <;> simp [EPar])⟩
    refine StepsR.cons 6 rfl ?_ ?_
    · intro L us W hi hdep hR Kx hNx
      have hF := hide hR.1
      have f12 := hide hR.2.1
      have f13 := hide hR.2.2.1
      have f14 := hide hR.2.2.2.1
      have f15 := hide hR.2.2.2.2.1
      have hB := hR.2.2.2.2.2
      clear hR
      clear hdep
      have HB := hide hB
      clear hB
      simp only [fillA, Act.put, List.setIfInBounds_toArray, List.set_cons_zero, List.set_cons_succ] at hNx ⊢
      rw [if_pos (by rfl)]
      go_simp
      first | refine hNx _ _ ?_ | skip
      exact ⟨(unhide hF).step rfl rfl, keepG (unhide f12) (by decide) (by decide), keepG (unhide f13) (by decide) (by decide), keepL (unhide f14) (by decide), keepL (unhide f15) (by decide), (unhide HB).congr (fun k => by rcases k with _ | _ | _ | k <;> simp [EPar])⟩
    refine StepsR.cons 7 rfl ?_ ?_
    · intro L us W hi hdep hR Kx hNx
      have hF := hide hR.1
      have f12 := hide hR.2.1
      have f13 := hide hR.2.2.1
      have f14 := hide hR.2.2.2.1
      have f15 := hide hR.2.2.2.2.1
      have hB := hR.2.2.2.2.2
      clear hR
      have d5 : L 5 = true := hdep 5 (by kernel_rfl)
      clear hdep
      have hE : EPar ax ay au av ak ad cx cy cu cv ck cd p q r s w L us 0 = some (w.heap.size, [.int .i64 ax, .int .i64 ay, .int .i64 au, .int .i64 av, .int .i64 ak, .int .i64 ad, .int .i64 cx, .int .i64 cy, .int .i64 cu, .int .i64 cv, .int .i64 ck, .int .i64 cd]) := by simp [EPar]
      have e10 : us 10 = .pointer (some ⟨w.heap.size, 6, none⟩) := (unhide hF).get (k := 5) rfl d5
      have hO := hB.ownV hE
      have c0 := hO.cell (i := 0) rfl
      have c1 := hO.cell (i := 1) rfl
      have c2 := hO.cell (i := 2) rfl
      have c3 := hO.cell (i := 3) rfl
      have c4 := hO.cell (i := 4) rfl
      have c5 := hO.cell (i := 5) rfl
      have c6 := hO.cell (i := 6) rfl
      have c7 := hO.cell (i := 7) rfl
      have c8 := hO.cell (i := 8) rfl
      have c9 := hO.cell (i := 9) rfl
      have c10 := hO.cell (i := 10) rfl
      have c11 := hO.cell (i := 11) rfl
      clear hO
      have HB := hide hB
      clear hB
      have HE := hide hE
      clear hE
      simp only [fillA, Act.put, List.setIfInBounds_toArray, List.set_cons_zero, List.set_cons_succ] at hNx ⊢
      simp only [e10] at hNx ⊢
      clear e10
      rw [if_pos (by rfl)]
      go_simp
      first | refine hNx _ _ ?_ | skip
      exact ⟨(unhide hF).step rfl rfl, keepG (unhide f12) (by decide) (by decide), keepG (unhide f13) (by decide) (by decide), keepL (unhide f14) (by decide), keepL (unhide f15) (by decide), (unhide HB).congr (fun k => by rcases k with _ | _ | _ | k <;> simp [EPar])⟩
    refine StepsR.cons 8 rfl ?_ ?_
    · intro L us W hi hdep hR Kx hNx
      have hF := hide hR.1
      have f12 := hide hR.2.1
      have f13 := hide hR.2.2.1
      have f14 := hide hR.2.2.2.1
      have f15 := hide hR.2.2.2.2.1
      have hB := hR.2.2.2.2.2
      clear hR
      have d6 : L 6 = true := hdep 6 (by kernel_rfl)
      clear hdep
      have e11 : us 11 = vShip cx cy cu cv ck cd := (unhide hF).get (k := 6) rfl d6
      have HB := hide hB
      clear hB
      simp only [fillA, Act.put, List.setIfInBounds_toArray, List.set_cons_zero, List.set_cons_succ] at hNx ⊢
      simp only [e11] at hNx ⊢
      clear e11
      rw [if_pos (by rfl)]
      have HC := hide (unhide HW2 W)
      go_simp
      refine (unhide HC).mono ?_
      rintro e W' ⟨rfl, hb⟩
      replace HB := hide ((unhide HB).step hb)
      clear hb HC
      go_wp2_with fail
      first | refine hNx _ _ ?_ | skip
      exact ⟨(unhide hF).step rfl rfl, keepG (unhide f12) (by decide) (by decide), keepG (unhide f13) (by decide) (by decide), keepL (unhide f14) (by decide), keepL (unhide f15) (by decide), (unhide HB).congr (fun k => by rcases k with _ | _ | _ | k <;> simp [EPar])⟩
    refine StepsR.cons 9 rfl ?_ ?_
    · intro L us W hi hdep hR Kx hNx
      have hF := hide hR.1
      have f12 := hide hR.2.1
      have f13 := hide hR.2.2.1
      have f14 := hide hR.2.2.2.1
      have f15 := hide hR.2.2.2.2.1
      have hB := hR.2.2.2.2.2
      clear hR
      clear hdep
      have HB := hide hB
      clear hB
      simp only [fillA, Act.put, List.setIfInBounds_toArray, List.set_cons_zero, List.set_cons_succ] at hNx ⊢
      rw [if_pos (by rfl)]
      go_simp
      first | refine hNx _ _ ?_ | skip
      exact ⟨(unhide hF).step rfl rfl, keepG (unhide f12) (by decide) (by decide), keepG (unhide f13) (by decide) (by decide), keepL (unhide f14) (by decide), keepL (unhide f15) (by decide), (unhide HB).congr (fun k => by rcases k with _ | _ | _ | k <;> simp [EPar])⟩
    refine StepsR.cons 10 rfl ?_ ?_
    · intro L us W hi hdep hR Kx hNx
      have hF := hide hR.1
      have f12 := hide hR.2.1
      have f13 := hide hR.2.2.1
      have f14 := hide hR.2.2.2.1
      have f15 := hide hR.2.2.2.2.1
      have hB := hR.2.2.2.2.2
      clear hR
      have d8 : L 8 = true := hdep 8 (by kernel_rfl)
      clear hdep
      have hE : EPar ax ay au av ak ad cx cy cu cv ck cd p q r s w L us 0 = some (w.heap.size, [.int .i64 ax, .int .i64 ay, .int .i64 au, .int .i64 av, .int .i64 ak, .int .i64 ad, .int .i64 cx, .int .i64 cy, .int .i64 cu, .int .i64 cv, .int .i64 ck, .int .i64 cd]) := by simp [EPar]
      have e13 : us 13 = .pointer (some ⟨w.heap.size, 0, none⟩) := (unhide hF).get (k := 8) rfl d8
      have hO := hB.ownV hE
      have c0 := hO.cell (i := 0) rfl
      have c1 := hO.cell (i := 1) rfl
      have c2 := hO.cell (i := 2) rfl
      have c3 := hO.cell (i := 3) rfl
      have c4 := hO.cell (i := 4) rfl
      have c5 := hO.cell (i := 5) rfl
      have c6 := hO.cell (i := 6) rfl
      have c7 := hO.cell (i := 7) rfl
      have c8 := hO.cell (i := 8) rfl
      have c9 := hO.cell (i := 9) rfl
      have c10 := hO.cell (i := 10) rfl
      have c11 := hO.cell (i := 11) rfl
      clear hO
      have HB := hide hB
      clear hB
      have HE := hide hE
      clear hE
      simp only [fillA, Act.put, List.setIfInBounds_toArray, List.set_cons_zero, List.set_cons_succ] at hNx ⊢
      simp only [e13] at hNx ⊢
      clear e13
      rw [if_pos (by rfl)]
      go_simp
      first | refine hNx _ _ ?_ | skip
      exact ⟨(unhide hF).step rfl rfl, keepG (unhide f12) (by decide) (by decide), keepG (unhide f13) (by decide) (by decide), keepL (unhide f14) (by decide), keepL (unhide f15) (by decide), (unhide HB).congr (fun k => by rcases k with _ | _ | _ | k <;> simp [EPar])⟩
    refine StepsR.cons 11 rfl ?_ ?_
    · intro L us W hi hdep hR Kx hNx
      have hF := hide hR.1
      have f12 := hide hR.2.1
      have f13 := hide hR.2.2.1
      have f14 := hide hR.2.2.2.1
      have f15 := hide hR.2.2.2.2.1
      have hB := hR.2.2.2.2.2
      clear hR
      have d9 : L 9 = true := hdep 9 (by kernel_rfl)
      clear hdep
      have e14 : us 14 = vShip ax ay au av ak ad := (unhide hF).get (k := 9) rfl d9
      have HB := hide hB
      clear hB
      simp only [fillA, Act.put, List.setIfInBounds_toArray, List.set_cons_zero, List.set_cons_succ] at hNx ⊢
      simp only [e14] at hNx ⊢
      clear e14
      rw [if_pos (by rfl)]
      have HC := hide (unhide HW1 W)
      go_simp
      refine (unhide HC).mono ?_
      rintro e W' ⟨rfl, hb⟩
      replace HB := hide ((unhide HB).step hb)
      clear hb HC
      go_wp2_with fail
      first | refine hNx _ _ ?_ | skip
      exact ⟨(unhide hF).step rfl rfl, keepG (unhide f12) (by decide) (by decide), keepG (unhide f13) (by decide) (by decide), keepL (unhide f14) (by decide), keepL (unhide f15) (by decide), (unhide HB).congr (fun k => by rcases k with _ | _ | _ | k <;> simp [EPar])⟩
    refine StepsR.cons 12 rfl ?_ ?_
    · intro L us W hi hdep hR Kx hNx
      have hF := hide hR.1
      have f12 := hide hR.2.1
      have f13 := hide hR.2.2.1
      have f14 := hide hR.2.2.2.1
      have f15 := hide hR.2.2.2.2.1
      have hB := hR.2.2.2.2.2
      clear hR
      have d7 : L 7 = true := hdep 7 (by kernel_rfl)
      have d10 : L 10 = true := hdep 10 (by kernel_rfl)
      clear hdep
      have e12 : us 12 = vV cu cv := (unhide hF).get (k := 7) rfl d7
      have e15 : us 15 = vV au av := (unhide hF).get (k := 10) rfl d10
      have HB := hide hB
      clear hB
      simp only [fillA, Act.put, List.setIfInBounds_toArray, List.set_cons_zero, List.set_cons_succ] at hNx ⊢
      simp only [e12, e15] at hNx ⊢
      clear e12 e15
      rw [if_pos (by rfl)]
      have HC := hide (unhide HLs W)
      go_simp
      refine (unhide HC).mono ?_
      rintro e W' ⟨rfl, hb⟩
      replace HB := hide ((unhide HB).step hb)
      clear hb HC
      go_wp2_with fail
      first | refine hNx _ _ ?_ | skip
      exact ⟨(unhide hF).step rfl rfl, keepG (unhide f12) (by decide) (by decide), keepG (unhide f13) (by decide) (by decide), keepL (unhide f14) (by decide), keepL (unhide f15) (by decide), (unhide HB).congr (fun k => by rcases k with _ | _ | _ | k <;> simp [EPar])⟩
    refine StepsR.cons 13 rfl ?_ ?_
    · intro L us W hi hdep hR Kx hNx
      have hF := hide hR.1
      have f12 := hide hR.2.1
      have f13 := hide hR.2.2.1
      have f14 := hide hR.2.2.2.1
      have f15 := hide hR.2.2.2.2.1
      have hB := hR.2.2.2.2.2
      clear hR
      clear hdep
      have HB := hide hB
      clear hB
      simp only [fillA, Act.put, List.setIfInBounds_toArray, List.set_cons_zero, List.set_cons_succ] at hNx ⊢
      rw [if_pos (by rfl)]
      have A1 := hide ((unhide HB).made 1 #[.int .i64 0, .int .i64 0] 54)
      go_simp
      first | refine hNx _ _ ?_ | skip
      have nst : L 14 = false := notL (unhide f14) hi
      exact ⟨(unhide hF).stepO rfl, newG, keepG (unhide f13) (by decide) (by decide), keepL (unhide f14) (by decide), keepL (unhide f15) (by decide), (unhide A1).congr (fun k => by rcases k with _ | _ | _ | k <;> simp [EPar, *])⟩
    refine StepsR.cons 14 rfl ?_ ?_
    · intro L us W hi hdep hR Kx hNx
      have hF := hide hR.1
      have f12 := hide hR.2.1
      have f13 := hide hR.2.2.1
      have f14 := hide hR.2.2.2.1
      have f15 := hide hR.2.2.2.2.1
      have hB := hR.2.2.2.2.2
      clear hR
      clear hdep
      have HB := hide hB
      clear hB
      simp only [fillA, Act.put, List.setIfInBounds_toArray, List.set_cons_zero, List.set_cons_succ] at hNx ⊢
      rw [if_pos (by rfl)]
      have A1 := hide ((unhide HB).made 2 #[.int .i64 0, .int .i64 0] 54)
      go_simp
      first | refine hNx _ _ ?_ | skip
      have nst : L 15 = false := notL (unhide f15) hi
      exact ⟨(unhide hF).stepO rfl, keepG (unhide f12) (by decide) (by decide), newG, keepL (unhide f14) (by decide), keepL (unhide f15) (by decide), (unhide A1).congr (fun k => by rcases k with _ | _ | _ | k <;> simp [EPar, *])⟩
    refine StepsR.cons 15 rfl ?_ ?_
    · intro L us W hi hdep hR Kx hNx
      have hF := hide hR.1
      have f12 := hide hR.2.1
      have f13 := hide hR.2.2.1
      have f14 := hide hR.2.2.2.1
      have f15 := hide hR.2.2.2.2.1
      have hB := hR.2.2.2.2.2
      clear hR
      have d4 : L 4 = true := hdep 4 (by kernel_rfl)
      have d12 : L 12 = true := hdep 12 (by kernel_rfl)
      clear hdep
      have hE : EPar ax ay au av ak ad cx cy cu cv ck cd p q r s w L us 1 = some ((gOf (us 3)), [.int .i64 0, .int .i64 0]) := by simp [EPar, *]
      have e9 : us 9 = vV p q := (unhide hF).get (k := 4) rfl d4
      have e3 := unhide f12 d12
      have hO := hB.ownV hE
      have c0 := hO.cell (i := 0) rfl
      have c1 := hO.cell (i := 1) rfl
      have z0 := hO.frozen 0
      have z1 := hO.frozen 1
      clear hO
      have HB := hide hB
      clear hB
      have HE := hide hE
      clear hE
      simp only [fillA, Act.put, List.setIfInBounds_toArray, List.set_cons_zero, List.set_cons_succ] at hNx ⊢
      simp only [e9] at hNx ⊢
      rw [e3] at hNx ⊢
      clear e9 e3
      rw [if_pos (by rfl)]
      have A1 := hide (((unhide HB).set (k := 1) (g := (gOf (us 3))) (vs := [.int .i64 0, .int .i64 0]) (unhide HE) 0 (.int .i64 p) (by simp)).set (k := 1) (g := (gOf (us 3))) (vs := [.int .i64 p, .int .i64 0]) (by simp) 1 (.int .i64 q) (by simp))
      go_simp
      first | refine hNx undef _ ?_ | skip
      exact ⟨(unhide hF).stepN rfl, keepGN (unhide f12) (by decide), keepGN (unhide f13) (by decide), newL d12 (by decide), keepL (unhide f15) (by decide), (unhide A1).congr (fun k => by rcases k with _ | _ | _ | k <;> simp [EPar, *])⟩
    refine StepsR.cons 16 rfl ?_ ?_
    · intro L us W hi hdep hR Kx hNx
      have hF := hide hR.1
      have f12 := hide hR.2.1
      have f13 := hide hR.2.2.1
      have f14 := hide hR.2.2.2.1
      have f15 := hide hR.2.2.2.2.1
      have hB := hR.2.2.2.2.2
      clear hR
      have d11 : L 11 = true := hdep 11 (by kernel_rfl)
      have d13 : L 13 = true := hdep 13 (by kernel_rfl)
      clear hdep
      have hE : EPar ax ay au av ak ad cx cy cu cv ck cd p q r s w L us 2 = some ((gOf (us 4)), [.int .i64 0, .int .i64 0]) := by simp [EPar, *]
      have e16 : us 16 = vV r s := (unhide hF).get (k := 11) rfl d11
      have e4 := unhide f13 d13
      have hO := hB.ownV hE
      have c0 := hO.cell (i := 0) rfl
      have c1 := hO.cell (i := 1) rfl
      have z0 := hO.frozen 0
      have z1 := hO.frozen 1
      clear hO
      have HB := hide hB
      clear hB
      have HE := hide hE
      clear hE
      simp only [fillA, Act.put, List.setIfInBounds_toArray, List.set_cons_zero, List.set_cons_succ] at hNx ⊢
      simp only [e16] at hNx ⊢
      rw [e4] at hNx ⊢
      clear e16 e4
      rw [if_pos (by rfl)]
      have A1 := hide (((unhide HB).set (k := 2) (g := (gOf (us 4))) (vs := [.int .i64 0, .int .i64 0]) (unhide HE) 0 (.int .i64 r) (by simp)).set (k := 2) (g := (gOf (us 4))) (vs := [.int .i64 r, .int .i64 0]) (by simp) 1 (.int .i64 s) (by simp))
      go_simp
      first | refine hNx undef _ ?_ | skip
      exact ⟨(unhide hF).stepN rfl, keepGN (unhide f12) (by decide), keepGN (unhide f13) (by decide), keepL (unhide f14) (by decide), newL d13 (by decide), (unhide A1).congr (fun k => by rcases k with _ | _ | _ | k <;> simp [EPar, *])⟩
    exact StepsR.nil
  · intro L us W hL hR
    have hF := hide hR.1
    have f12 := hide hR.2.1
    have f13 := hide hR.2.2.1
    have f14 := hide hR.2.2.2.1
    have f15 := hide hR.2.2.2.2.1
    have hB := hR.2.2.2.2.2
    clear hR
    have l12 := hL 12 (by decide)
    have l13 := hL 13 (by decide)
    have l14 := hL 14 (by decide)
    have l15 := hL 15 (by decide)
    have hE0 : EPar ax ay au av ak ad cx cy cu cv ck cd p q r s w L us 0 = some (w.heap.size, [.int .i64 ax, .int .i64 ay, .int .i64 au, .int .i64 av, .int .i64 ak, .int .i64 ad, .int .i64 cx, .int .i64 cy, .int .i64 cu, .int .i64 cv, .int .i64 ck, .int .i64 cd]) := by simp [EPar]
    have hO0 := hB.ownV hE0
    have hE1 : EPar ax ay au av ak ad cx cy cu cv ck cd p q r s w L us 1 = some ((gOf (us 3)), [.int .i64 p, .int .i64 q]) := by simp [EPar, *]
    have hO1 := hB.ownV hE1
    have hE2 : EPar ax ay au av ak ad cx cy cu cv ck cd p q r s w L us 2 = some ((gOf (us 4)), [.int .i64 r, .int .i64 s]) := by simp [EPar, *]
    have hO2 := hB.ownV hE2
    have hg1 := (hB.own 1 _ _ hE1).1
    have ha1_0 := hB.apart 1 0 _ _ _ _ hE1 hE0 (by decide)
    have hg2 := (hB.own 2 _ _ hE2).1
    have ha2_0 := hB.apart 2 0 _ _ _ _ hE2 hE0 (by decide)
    have ha2_1 := hB.apart 2 1 _ _ _ _ hE2 hE1 (by decide)
    clear hE0 hE1 hE2
    have HA : Hid (Bk w W (XPar ax ay au av ak ad cx cy cu cv ck cd p q r s w (gOf (us 3)) (gOf (us 4)))) := hide (hB.congr (fun k => by rcases k with _ | _ | _ | k <;> simp [EPar, XPar, *]))
    have f0 : us 5 = .pointer (some ⟨w.heap.size, 6, none⟩) := (unhide hF).get (k := 0) rfl (hL 0 (by decide))
    have f1 : us 6 = vShip cx cy cu cv ck cd := (unhide hF).get (k := 1) rfl (hL 1 (by decide))
    have f2 : us 7 = .pointer (some ⟨w.heap.size, 0, none⟩) := (unhide hF).get (k := 2) rfl (hL 2 (by decide))
    have f3 : us 8 = vShip ax ay au av ak ad := (unhide hF).get (k := 3) rfl (hL 3 (by decide))
    have f4 : us 9 = vV p q := (unhide hF).get (k := 4) rfl (hL 4 (by decide))
    have f5 : us 10 = .pointer (some ⟨w.heap.size, 6, none⟩) := (unhide hF).get (k := 5) rfl (hL 5 (by decide))
    have f6 : us 11 = vShip cx cy cu cv ck cd := (unhide hF).get (k := 6) rfl (hL 6 (by decide))
    have f7 : us 12 = vV cu cv := (unhide hF).get (k := 7) rfl (hL 7 (by decide))
    have f8 : us 13 = .pointer (some ⟨w.heap.size, 0, none⟩) := (unhide hF).get (k := 8) rfl (hL 8 (by decide))
    have f9 : us 14 = vShip ax ay au av ak ad := (unhide hF).get (k := 9) rfl (hL 9 (by decide))
    have f10 : us 15 = vV au av := (unhide hF).get (k := 10) rfl (hL 10 (by decide))
    have f11 : us 16 = vV r s := (unhide hF).get (k := 11) rfl (hL 11 (by decide))
    replace f12 := unhide f12 (hL 12 (by decide))
    replace f13 := unhide f13 (hL 13 (by decide))
    have HW := hide hB.below
    clear hB hL l12 l13 l14 l15
    simp only [fillA, Act.put, List.setIfInBounds_toArray, List.set_cons_zero, List.set_cons_succ]
    simp only [f0, f1, f2, f3, f4, f5, f6, f7, f8, f9, f10, f11]
    rw [f12]
    rw [f13]
    clear hF f0 f1 f2 f3 f4 f5 f6 f7 f8 f9 f10 f11 f12 f13 f14 f15
    generalize gOf (us 3) = g3 at *
    generalize gOf (us 4) = g4 at *
    clear us L
    clear hO0 hO1 hO2 hg1 hg2 ha1_0 ha2_0 ha2_1 HW HB HBe HW1 HW2 HLs
    have hq := (unhide HA).ownV (k := 1) rfl
    have m0 := hq.cell (i := 0) rfl
    have m1 := hq.cell (i := 1) rfl
    clear hq
    have hq := (unhide HA).ownV (k := 2) rfl
    have n0 := hq.cell (i := 0) rfl
    have n1 := hq.cell (i := 1) rfl
    clear hq
    have hEq := eql_vec p q 0 0
    have hGd := fun x y w => run_eqGuard_agg (P := Try.prog) w .eql 54 x y #[.int .i64 p, .int .i64 q] #[.int .i64 0, .int .i64 0] Try.eqgVec
    cases hz : (p == 0 && q == 0)
    case true =>
      have HW := hide (unhide HA).below
      have HZ2 := hide (unhide HZ hz)
      go_wp2
      go_ret
      exact ⟨ret_bool (by rw [unhide HT, unhide HZ2]), unhide HW⟩
    go_wp2_with fail
    refine (unhide HDo _).mono ?_
    rintro e w7 ⟨rfl, hb⟩
    replace HA := hide ((unhide HA).step hb)
    clear hb HDo m0 m1 n0 n1 hEq hGd hz HZ
    have HW := hide (unhide HA).below
    go_wp2
    go_ret
    exact ⟨ret_bool (unhide HT).symm, unhide HW⟩

end Go.Proofs.Ytcljgaofpeaplaa

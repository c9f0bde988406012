/- HeadOn, the program's and the specification's. Written by wip/mkrr7.py. -/
import Derived.Test.YtcljgaofpeaplaaRrF
namespace Go.Proofs.Ytcljgaofpeaplaa
open Go.RowKit

def ndB (p q r s : Int) : Bool := decide (p * r + q * s < 0) && bes 100 1 p q r s
/-- Whether a and c meet nearly end on. -/
def hdB (ax ay au av ak ad cx cy cu cv ck cd : Int) : Bool := shipB ax ay au av ak ad && (shipB cx cy cu cv ck cd && (ndB au av cu cv && (ahdB ax ay au av ak ad cx cy cu cv ck cd && ahdB cx cy cu cv ck cd ax ay au av ak ad)))

def EHit (ax ay au av ak ad cx cy cu cv ck cd _d : Int) (_b : Bool) (w : World) (_L : Nat → Bool) (_us : Nat → Value) : Nat → Option (Nat × List Value)
  | 0 => some (w.heap.size, [.int .i64 ax, .int .i64 ay, .int .i64 au, .int .i64 av, .int .i64 ak, .int .i64 ad])
  | 1 => some (w.heap.size + 1, [.int .i64 cx, .int .i64 cy, .int .i64 cu, .int .i64 cv, .int .i64 ck, .int .i64 cd])
  | _ => none
def FHit (ax ay au av ak ad cx cy cu cv ck cd d : Int) (_b : Bool) : FL := [(0, 13, vShip ax ay au av ak ad), (1, 14, vV au av), (2, 15, vShip cx cy cu cv ck cd), (3, 16, vV cu cv), (4, 17, .int .i64 d), (5, 18, .bool true), (6, 19, .bool true), (7, 20, undef), (8, 21, undef), (9, 22, undef), (10, 23, undef), (11, 24, undef), (12, 25, undef), (13, 26, .bool true)]
def RHit (ax ay au av ak ad cx cy cu cv ck cd d : Int) (b : Bool) (w : World) (L : Nat → Bool) (us : Nat → Value) (W : World) : Prop :=
  Facts L us (FHit ax ay au av ak ad cx cy cu cv ck cd d b) ∧ Bk w W (EHit ax ay au av ak ad cx cy cu cv ck cd d b w L us)
def XHit (ax ay au av ak ad cx cy cu cv ck cd _d : Int) (_b : Bool) (w : World) : Nat → Option (Nat × List Value)
  | 0 => some (w.heap.size, [.int .i64 ax, .int .i64 ay, .int .i64 au, .int .i64 av, .int .i64 ak, .int .i64 ad])
  | 1 => some (w.heap.size + 1, [.int .i64 cx, .int .i64 cy, .int .i64 cu, .int .i64 cv, .int .i64 ck, .int .i64 cd])
  | _ => none
def EHif (ax ay au av ak ad cx cy cu cv ck cd _d : Int) (_b : Bool) (w : World) (_L : Nat → Bool) (_us : Nat → Value) : Nat → Option (Nat × List Value)
  | 0 => some (w.heap.size, [.int .i64 ax, .int .i64 ay, .int .i64 au, .int .i64 av, .int .i64 ak, .int .i64 ad])
  | 1 => some (w.heap.size + 1, [.int .i64 cx, .int .i64 cy, .int .i64 cu, .int .i64 cv, .int .i64 ck, .int .i64 cd])
  | _ => none
def FHif (ax ay au av ak ad cx cy cu cv ck cd d : Int) (b : Bool) : FL := [(0, 13, vShip ax ay au av ak ad), (1, 14, vV au av), (2, 15, vShip cx cy cu cv ck cd), (3, 16, vV cu cv), (4, 17, .int .i64 d), (5, 18, .bool false), (6, 19, .bool false), (7, 20, vShip ax ay au av ak ad), (8, 21, vV au av), (9, 22, vShip cx cy cu cv ck cd), (10, 23, vV cu cv), (11, 24, .bool b), (12, 25, .bool (!b)), (13, 26, .bool (!b))]
def RHif (ax ay au av ak ad cx cy cu cv ck cd d : Int) (b : Bool) (w : World) (L : Nat → Bool) (us : Nat → Value) (W : World) : Prop :=
  Facts L us (FHif ax ay au av ak ad cx cy cu cv ck cd d b) ∧ Bk w W (EHif ax ay au av ak ad cx cy cu cv ck cd d b w L us)
def XHif (ax ay au av ak ad cx cy cu cv ck cd _d : Int) (_b : Bool) (w : World) : Nat → Option (Nat × List Value)
  | 0 => some (w.heap.size, [.int .i64 ax, .int .i64 ay, .int .i64 au, .int .i64 av, .int .i64 ak, .int .i64 ad])
  | 1 => some (w.heap.size + 1, [.int .i64 cx, .int .i64 cy, .int .i64 cu, .int .i64 cv, .int .i64 ck, .int .i64 cd])
  | _ => none
set_option maxRecDepth 10000 in
set_option maxHeartbeats 6400000 in
theorem implHeadOn_any (ax ay au av ak ad cx cy cu cv ck cd : Int) (w : World) :
    Calls Try.prog 37 #[vShip ax ay au av ak ad, vShip cx cy cu cv ck cd] w fun e w' => e = .returned (.bool (hdB ax ay au av ak ad cx cy cu cv ck cd)) ∧ Below w.heap.size w w' := by
  have HB := hide (bk_two w #[.int .i64 ax, .int .i64 ay, .int .i64 au, .int .i64 av, .int .i64 ak, .int .i64 ad] #[.int .i64 cx, .int .i64 cy, .int .i64 cu, .int .i64 cv, .int .i64 ck, .int .i64 cd] 25 25)
  have HS1 := hide fun W => implShipOk_any ax ay au av ak ad W
  have HS2 := hide fun W => implShipOk_any cx cy cu cv ck cd W
  unfold vShip at HS1 HS2 ⊢
  go_enter Try.func37, Try.ntmps37
  go_wp2_with fail
  refine (unhide HS1 _).mono ?_
  rintro e w1 ⟨rfl, hb⟩
  replace HB := hide ((unhide HB).step hb)
  clear hb HS1
  cases h1 : shipB ax ay au av ak ad
  · have HN : Hid (hdB ax ay au av ak ad cx cy cu cv ck cd = false) := by show _ = _; unfold hdB; rw [h1]; simp
    clear h1 HS2
    go_wp2
    go_ret
    exact ⟨ret_bool (unhide HN).symm, (unhide HB).below⟩
  have hq := (unhide HB).ownV (k := 1) rfl
  have c0 := hq.cell (i := 0) rfl
  have c1 := hq.cell (i := 1) rfl
  have c2 := hq.cell (i := 2) rfl
  have c3 := hq.cell (i := 3) rfl
  have c4 := hq.cell (i := 4) rfl
  have c5 := hq.cell (i := 5) rfl
  clear hq
  go_wp2_with fail
  refine (unhide HS2 _).mono ?_
  rintro e w2 ⟨rfl, hb⟩
  replace HB := hide ((unhide HB).step hb)
  clear hb HS2 c0 c1 c2 c3 c4 c5
  cases h2 : shipB cx cy cu cv ck cd
  · have HN : Hid (hdB ax ay au av ak ad cx cy cu cv ck cd = false) := by show _ = _; unfold hdB; rw [h2]; simp
    clear h1 h2
    go_wp2
    go_ret
    exact ⟨ret_bool (unhide HN).symm, (unhide HB).below⟩
  obtain ⟨ba0, ba1, ba2, ba3, ba4, ba5, ba6, ba7⟩ := shipB_bd h1
  obtain ⟨bc0, bc1, bc2, bc3, bc4, bc5, bc6, bc7⟩ := shipB_bd h2
  have n1 : au.natAbs ≤ 200000 := by omega
  have n2 : av.natAbs ≤ 200000 := by omega
  have n3 : cu.natAbs ≤ 1000 := by omega
  have n4 : cv.natAbs ≤ 1000 := by omega
  have HW1 := hide fun W => implWay_any ax ay au av ak ad W
  have HW2 := hide fun W => implWay_any cx cy cu cv ck cd W
  have HA1 := hide fun W => implAhead_any ax ay au av ak ad cx cy cu cv ck cd W h1 h2
  have HA2 := hide fun W => implAhead_any cx cy cu cv ck cd ax ay au av ak ad W h2 h1
  obtain ⟨x, ex⟩ : ∃ x, x = ahdB ax ay au av ak ad cx cy cu cv ck cd := ⟨_, rfl⟩
  obtain ⟨y, ey⟩ : ∃ x, x = ahdB cx cy cu cv ck cd ax ay au av ak ad := ⟨_, rfl⟩
  have HT : Hid (hdB ax ay au av ak ad cx cy cu cv ck cd = (ndB au av cu cv && (x && y))) := by show _ = _; unfold hdB; rw [h1, h2, ex, ey]; rfl
  rw [← ex] at HA1
  rw [← ey] at HA2
  unfold vShip at HA1 HA2
  clear ex ey h1 h2 ba0 ba1 ba2 ba3 ba4 ba5 ba6 ba7 bc0 bc1 bc2 bc3 bc4 bc5 bc6 bc7
  have HDo := hide fun W => implDot_any au av cu cv W n1 n2 (Nat.le_trans n3 (by decide)) (Nat.le_trans n4 (by decide))
  have HBs := hide fun W => implBeside100_any au av cu cv W n1 n2 n3 n4
  obtain ⟨d, ed⟩ : ∃ d, d = au * cu + av * cv := ⟨_, rfl⟩
  obtain ⟨b, eb⟩ : ∃ b, b = bes 100 1 au av cu cv := ⟨_, rfl⟩
  have HV : Hid (ndB au av cu cv = (decide (d < 0) && b)) := by show _ = _; rw [ed, eb]; rfl
  rw [← ed] at HDo
  rw [← eb] at HBs
  clear ed eb n1 n2 n3 n4
  cases hd : decide (0 ≤ d)
  case true =>
    have hd2 : decide (d < 0) = false := by simp at hd ⊢; omega
    rw [hd2] at HV
    clear hd2
    go_wp2_with fail
    have HB0 : Hid (∀ us, Bk w _ (EHit ax ay au av ak ad cx cy cu cv ck cd d b w (fun _ => false) us)) := hide (fun us => ((unhide HB)).congr (fun k => by rcases k with _ | _ | k <;> simp [EHit, E2]))
    refine wp_region_slots [13, 14, 15, 16, 17, 18, 19, 20, 21, 22, 23, 24, 25, 26] (RHit ax ay au av ak ad cx cy cu cv ck cd d b w) (by kernel_rfl) (by kernel_rfl) (by decide) (by kernel_rfl) ?_ ?_ ?_
    · intro us
      exact ⟨facts_start us _, (unhide HB0 us).drew⟩
    · clear HB0
      refine StepsR.cons 1 rfl ?_ ?_
      · intro L us W hi hdep hR Kx hNx
        have hF := hide hR.1
        have hB := hR.2
        clear hR
        clear hdep
        have hE : EHit ax ay au av ak ad cx cy cu cv ck cd d b w L us 0 = some (w.heap.size, [.int .i64 ax, .int .i64 ay, .int .i64 au, .int .i64 av, .int .i64 ak, .int .i64 ad]) := by simp [EHit]
        have hO := hB.ownV hE
        have c0 := hO.cell (i := 0) rfl
        have c1 := hO.cell (i := 1) rfl
        have c2 := hO.cell (i := 2) rfl
        have c3 := hO.cell (i := 3) rfl
        have c4 := hO.cell (i := 4) rfl
        have c5 := hO.cell (i := 5) rfl
        clear hO
        have HB := hide hB
        clear hB
        have HE := hide hE
        clear hE
        simp only [fillA, Act.put, List.setIfInBounds_toArray, List.set_cons_zero, List.set_cons_succ] at hNx ⊢
        rw [if_pos (by rfl)]
        go_simp
        first | refine hNx _ _ ?_ | skip
        exact ⟨(unhide hF).step rfl rfl, (unhide HB).congr (fun k => by rcases k with _ | _ | k <;> simp [EHit])⟩
      refine StepsR.cons 2 rfl ?_ ?_
      · intro L us W hi hdep hR Kx hNx
        have hF := hide hR.1
        have hB := hR.2
        clear hR
        have d0 : L 0 = true := hdep 0 (by kernel_rfl)
        clear hdep
        have e13 : us 13 = vShip ax ay au av ak ad := (unhide hF).get (k := 0) rfl d0
        have HB := hide hB
        clear hB
        simp only [fillA, Act.put, List.setIfInBounds_toArray, List.set_cons_zero, List.set_cons_succ] at hNx ⊢
        simp only [e13] at hNx ⊢
        clear e13
        rw [if_pos (by rfl)]
        have HC := hide (unhide HW1 W)
        go_simp
        refine (unhide HC).mono ?_
        rintro e W' ⟨rfl, hb⟩
        replace HB := hide ((unhide HB).step hb)
        clear hb HC
        go_wp2_with fail
        first | refine hNx _ _ ?_ | skip
        exact ⟨(unhide hF).step rfl rfl, (unhide HB).congr (fun k => by rcases k with _ | _ | k <;> simp [EHit])⟩
      refine StepsR.cons 3 rfl ?_ ?_
      · intro L us W hi hdep hR Kx hNx
        have hF := hide hR.1
        have hB := hR.2
        clear hR
        clear hdep
        have hE : EHit ax ay au av ak ad cx cy cu cv ck cd d b w L us 1 = some (w.heap.size + 1, [.int .i64 cx, .int .i64 cy, .int .i64 cu, .int .i64 cv, .int .i64 ck, .int .i64 cd]) := by simp [EHit]
        have hO := hB.ownV hE
        have c0 := hO.cell (i := 0) rfl
        have c1 := hO.cell (i := 1) rfl
        have c2 := hO.cell (i := 2) rfl
        have c3 := hO.cell (i := 3) rfl
        have c4 := hO.cell (i := 4) rfl
        have c5 := hO.cell (i := 5) rfl
        clear hO
        have HB := hide hB
        clear hB
        have HE := hide hE
        clear hE
        simp only [fillA, Act.put, List.setIfInBounds_toArray, List.set_cons_zero, List.set_cons_succ] at hNx ⊢
        rw [if_pos (by rfl)]
        go_simp
        first | refine hNx _ _ ?_ | skip
        exact ⟨(unhide hF).step rfl rfl, (unhide HB).congr (fun k => by rcases k with _ | _ | k <;> simp [EHit])⟩
      refine StepsR.cons 4 rfl ?_ ?_
      · intro L us W hi hdep hR Kx hNx
        have hF := hide hR.1
        have hB := hR.2
        clear hR
        have d2 : L 2 = true := hdep 2 (by kernel_rfl)
        clear hdep
        have e15 : us 15 = vShip cx cy cu cv ck cd := (unhide hF).get (k := 2) rfl d2
        have HB := hide hB
        clear hB
        simp only [fillA, Act.put, List.setIfInBounds_toArray, List.set_cons_zero, List.set_cons_succ] at hNx ⊢
        simp only [e15] at hNx ⊢
        clear e15
        rw [if_pos (by rfl)]
        have HC := hide (unhide HW2 W)
        go_simp
        refine (unhide HC).mono ?_
        rintro e W' ⟨rfl, hb⟩
        replace HB := hide ((unhide HB).step hb)
        clear hb HC
        go_wp2_with fail
        first | refine hNx _ _ ?_ | skip
        exact ⟨(unhide hF).step rfl rfl, (unhide HB).congr (fun k => by rcases k with _ | _ | k <;> simp [EHit])⟩
      refine StepsR.cons 5 rfl ?_ ?_
      · intro L us W hi hdep hR Kx hNx
        have hF := hide hR.1
        have hB := hR.2
        clear hR
        have d1 : L 1 = true := hdep 1 (by kernel_rfl)
        have d3 : L 3 = true := hdep 3 (by kernel_rfl)
        clear hdep
        have e14 : us 14 = vV au av := (unhide hF).get (k := 1) rfl d1
        have e16 : us 16 = vV cu cv := (unhide hF).get (k := 3) rfl d3
        have HB := hide hB
        clear hB
        simp only [fillA, Act.put, List.setIfInBounds_toArray, List.set_cons_zero, List.set_cons_succ] at hNx ⊢
        simp only [e14, e16] at hNx ⊢
        clear e14 e16
        rw [if_pos (by rfl)]
        have HC := hide (unhide HDo W)
        go_simp
        refine (unhide HC).mono ?_
        rintro e W' ⟨rfl, hb⟩
        replace HB := hide ((unhide HB).step hb)
        clear hb HC
        go_wp2_with fail
        first | refine hNx _ _ ?_ | skip
        exact ⟨(unhide hF).step rfl rfl, (unhide HB).congr (fun k => by rcases k with _ | _ | k <;> simp [EHit])⟩
      refine StepsR.cons 6 rfl ?_ ?_
      · intro L us W hi hdep hR Kx hNx
        have hF := hide hR.1
        have hB := hR.2
        clear hR
        have d4 : L 4 = true := hdep 4 (by kernel_rfl)
        clear hdep
        have e17 : us 17 = .int .i64 d := (unhide hF).get (k := 4) rfl d4
        have HB := hide hB
        clear hB
        simp only [fillA, Act.put, List.setIfInBounds_toArray, List.set_cons_zero, List.set_cons_succ] at hNx ⊢
        simp only [e17] at hNx ⊢
        clear e17
        rw [if_pos (by rfl)]
        go_simp
        first | refine hNx _ _ ?_ | skip
        exact ⟨(unhide hF).step rfl rfl, (unhide HB).congr (fun k => by rcases k with _ | _ | k <;> simp [EHit])⟩
      refine StepsR.cons 7 rfl ?_ ?_
      · intro L us W hi hdep hR Kx hNx
        have hF := hide hR.1
        have hB := hR.2
        clear hR
        have d5 : L 5 = true := hdep 5 (by kernel_rfl)
        clear hdep
        have e18 : us 18 = .bool true := (unhide hF).get (k := 5) rfl d5
        have HB := hide hB
        clear hB
        simp only [fillA, Act.put, List.setIfInBounds_toArray, List.set_cons_zero, List.set_cons_succ] at hNx ⊢
        simp only [e18] at hNx ⊢
        clear e18
        rw [if_pos (by rfl)]
        go_simp
        first | refine hNx _ _ ?_ | skip
        exact ⟨(unhide hF).step rfl rfl, (unhide HB).congr (fun k => by rcases k with _ | _ | k <;> simp [EHit])⟩
      refine StepsR.cons 8 rfl ?_ ?_
      · intro L us W hi hdep hR Kx hNx
        have hF := hide hR.1
        have hB := hR.2
        clear hR
        have d6 : L 6 = true := hdep 6 (by kernel_rfl)
        clear hdep
        have e19 : us 19 = .bool true := (unhide hF).get (k := 6) rfl d6
        have HB := hide hB
        clear hB
        simp only [fillA, Act.put, List.setIfInBounds_toArray, List.set_cons_zero, List.set_cons_succ] at hNx ⊢
        simp only [e19] at hNx ⊢
        clear e19
        refine ifn (by rfl) ?_
        first | refine hNx _ _ ?_ | skip
        exact ⟨(unhide hF).step rfl rfl, (unhide HB).congr (fun k => by rcases k with _ | _ | k <;> simp [EHit])⟩
      refine StepsR.cons 9 rfl ?_ ?_
      · intro L us W hi hdep hR Kx hNx
        have hF := hide hR.1
        have hB := hR.2
        clear hR
        have d6 : L 6 = true := hdep 6 (by kernel_rfl)
        clear hdep
        have e19 : us 19 = .bool true := (unhide hF).get (k := 6) rfl d6
        have HB := hide hB
        clear hB
        simp only [fillA, Act.put, List.setIfInBounds_toArray, List.set_cons_zero, List.set_cons_succ] at hNx ⊢
        simp only [e19] at hNx ⊢
        clear e19
        refine ifn (by rfl) ?_
        first | refine hNx _ _ ?_ | skip
        exact ⟨(unhide hF).step rfl rfl, (unhide HB).congr (fun k => by rcases k with _ | _ | k <;> simp [EHit])⟩
      refine StepsR.cons 10 rfl ?_ ?_
      · intro L us W hi hdep hR Kx hNx
        have hF := hide hR.1
        have hB := hR.2
        clear hR
        have d6 : L 6 = true := hdep 6 (by kernel_rfl)
        clear hdep
        have e19 : us 19 = .bool true := (unhide hF).get (k := 6) rfl d6
        have HB := hide hB
        clear hB
        simp only [fillA, Act.put, List.setIfInBounds_toArray, List.set_cons_zero, List.set_cons_succ] at hNx ⊢
        simp only [e19] at hNx ⊢
        clear e19
        refine ifn (by rfl) ?_
        first | refine hNx _ _ ?_ | skip
        exact ⟨(unhide hF).step rfl rfl, (unhide HB).congr (fun k => by rcases k with _ | _ | k <;> simp [EHit])⟩
      refine StepsR.cons 11 rfl ?_ ?_
      · intro L us W hi hdep hR Kx hNx
        have hF := hide hR.1
        have hB := hR.2
        clear hR
        have d6 : L 6 = true := hdep 6 (by kernel_rfl)
        clear hdep
        have e19 : us 19 = .bool true := (unhide hF).get (k := 6) rfl d6
        have HB := hide hB
        clear hB
        simp only [fillA, Act.put, List.setIfInBounds_toArray, List.set_cons_zero, List.set_cons_succ] at hNx ⊢
        simp only [e19] at hNx ⊢
        clear e19
        refine ifn (by rfl) ?_
        first | refine hNx _ _ ?_ | skip
        exact ⟨(unhide hF).step rfl rfl, (unhide HB).congr (fun k => by rcases k with _ | _ | k <;> simp [EHit])⟩
      refine StepsR.cons 12 rfl ?_ ?_
      · intro L us W hi hdep hR Kx hNx
        have hF := hide hR.1
        have hB := hR.2
        clear hR
        have d6 : L 6 = true := hdep 6 (by kernel_rfl)
        clear hdep
        have e19 : us 19 = .bool true := (unhide hF).get (k := 6) rfl d6
        have HB := hide hB
        clear hB
        simp only [fillA, Act.put, List.setIfInBounds_toArray, List.set_cons_zero, List.set_cons_succ] at hNx ⊢
        simp only [e19] at hNx ⊢
        clear e19
        refine ifn (by rfl) ?_
        first | refine hNx _ _ ?_ | skip
        exact ⟨(unhide hF).step rfl rfl, (unhide HB).congr (fun k => by rcases k with _ | _ | k <;> simp [EHit])⟩
      refine StepsR.cons 13 rfl ?_ ?_
      · intro L us W hi hdep hR Kx hNx
        have hF := hide hR.1
        have hB := hR.2
        clear hR
        have d6 : L 6 = true := hdep 6 (by kernel_rfl)
        clear hdep
        have e19 : us 19 = .bool true := (unhide hF).get (k := 6) rfl d6
        have HB := hide hB
        clear hB
        simp only [fillA, Act.put, List.setIfInBounds_toArray, List.set_cons_zero, List.set_cons_succ] at hNx ⊢
        simp only [e19] at hNx ⊢
        clear e19
        refine ifn (by rfl) ?_
        first | refine hNx _ _ ?_ | skip
        exact ⟨(unhide hF).step rfl rfl, (unhide HB).congr (fun k => by rcases k with _ | _ | k <;> simp [EHit])⟩
      refine StepsR.cons 14 rfl ?_ ?_
      · intro L us W hi hdep hR Kx hNx
        have hF := hide hR.1
        have hB := hR.2
        clear hR
        have d6 : L 6 = true := hdep 6 (by kernel_rfl)
        have d12 : L 12 = true := hdep 12 (by kernel_rfl)
        clear hdep
        have e19 : us 19 = .bool true := (unhide hF).get (k := 6) rfl d6
        have e25 : us 25 = undef := (unhide hF).get (k := 12) rfl d12
        have HB := hide hB
        clear hB
        simp only [fillA, Act.put, List.setIfInBounds_toArray, List.set_cons_zero, List.set_cons_succ] at hNx ⊢
        simp only [e19, e25] at hNx ⊢
        clear e19 e25
        rw [if_pos (by rfl)]
        go_simp
        first | refine hNx _ _ ?_ | skip
        exact ⟨(unhide hF).step rfl rfl, (unhide HB).congr (fun k => by rcases k with _ | _ | k <;> simp [EHit])⟩
      exact StepsR.nil
    · intro L us W hL hR
      have hF := hide hR.1
      have hB := hR.2
      clear hR
      have hE0 : EHit ax ay au av ak ad cx cy cu cv ck cd d b w L us 0 = some (w.heap.size, [.int .i64 ax, .int .i64 ay, .int .i64 au, .int .i64 av, .int .i64 ak, .int .i64 ad]) := by simp [EHit]
      have hO0 := hB.ownV hE0
      have hE1 : EHit ax ay au av ak ad cx cy cu cv ck cd d b w L us 1 = some (w.heap.size + 1, [.int .i64 cx, .int .i64 cy, .int .i64 cu, .int .i64 cv, .int .i64 ck, .int .i64 cd]) := by simp [EHit]
      have hO1 := hB.ownV hE1
      clear hE0 hE1
      have HA : Hid (Bk w W (XHit ax ay au av ak ad cx cy cu cv ck cd d b w)) := hide (hB.congr (fun k => by rcases k with _ | _ | k <;> simp [EHit, XHit]))
      have f0 : us 13 = vShip ax ay au av ak ad := (unhide hF).get (k := 0) rfl (hL 0 (by decide))
      have f1 : us 14 = vV au av := (unhide hF).get (k := 1) rfl (hL 1 (by decide))
      have f2 : us 15 = vShip cx cy cu cv ck cd := (unhide hF).get (k := 2) rfl (hL 2 (by decide))
      have f3 : us 16 = vV cu cv := (unhide hF).get (k := 3) rfl (hL 3 (by decide))
      have f4 : us 17 = .int .i64 d := (unhide hF).get (k := 4) rfl (hL 4 (by decide))
      have f5 : us 18 = .bool true := (unhide hF).get (k := 5) rfl (hL 5 (by decide))
      have f6 : us 19 = .bool true := (unhide hF).get (k := 6) rfl (hL 6 (by decide))
      have f7 : us 20 = undef := (unhide hF).get (k := 7) rfl (hL 7 (by decide))
      have f8 : us 21 = undef := (unhide hF).get (k := 8) rfl (hL 8 (by decide))
      have f9 : us 22 = undef := (unhide hF).get (k := 9) rfl (hL 9 (by decide))
      have f10 : us 23 = undef := (unhide hF).get (k := 10) rfl (hL 10 (by decide))
      have f11 : us 24 = undef := (unhide hF).get (k := 11) rfl (hL 11 (by decide))
      have f12 : us 25 = undef := (unhide hF).get (k := 12) rfl (hL 12 (by decide))
      have f13 : us 26 = .bool true := (unhide hF).get (k := 13) rfl (hL 13 (by decide))
      have HW := hide hB.below
      clear hB hL
      simp only [fillA, Act.put, List.setIfInBounds_toArray, List.set_cons_zero, List.set_cons_succ]
      simp only [f0, f1, f2, f3, f4, f5, f6, f7, f8, f9, f10, f11, f12, f13]
      clear hF f0 f1 f2 f3 f4 f5 f6 f7 f8 f9 f10 f11 f12 f13
      clear us L
      clear hO0 hO1 HA HW1 HW2 HDo HBs HA1 HA2 HB
      go_wp2
      go_ret
      exact ⟨ret_bool (by rw [unhide HT, unhide HV]; rfl), unhide HW⟩
  case false =>
    have hd2 : decide (d < 0) = true := by simp at hd ⊢; omega
    rw [hd2] at HV
    clear hd2
    go_wp2_with fail
    have HB0 : Hid (∀ us, Bk w _ (EHif ax ay au av ak ad cx cy cu cv ck cd d b w (fun _ => false) us)) := hide (fun us => ((unhide HB)).congr (fun k => by rcases k with _ | _ | k <;> simp [EHif, E2]))
    refine wp_region_slots [13, 14, 15, 16, 17, 18, 19, 20, 21, 22, 23, 24, 25, 26] (RHif ax ay au av ak ad cx cy cu cv ck cd d b w) (by kernel_rfl) (by kernel_rfl) (by decide) (by kernel_rfl) ?_ ?_ ?_
    · intro us
      exact ⟨facts_start us _, (unhide HB0 us).drew⟩
    · clear HB0
      refine StepsR.cons 1 rfl ?_ ?_
      · intro L us W hi hdep hR Kx hNx
        have hF := hide hR.1
        have hB := hR.2
        clear hR
        clear hdep
        have hE : EHif ax ay au av ak ad cx cy cu cv ck cd d b w L us 0 = some (w.heap.size, [.int .i64 ax, .int .i64 ay, .int .i64 au, .int .i64 av, .int .i64 ak, .int .i64 ad]) := by simp [EHif]
        have hO := hB.ownV hE
        have c0 := hO.cell (i := 0) rfl
        have c1 := hO.cell (i := 1) rfl
        have c2 := hO.cell (i := 2) rfl
        have c3 := hO.cell (i := 3) rfl
        have c4 := hO.cell (i := 4) rfl
        have c5 := hO.cell (i := 5) rfl
        clear hO
        have HB := hide hB
        clear hB
        have HE := hide hE
        clear hE
        simp only [fillA, Act.put, List.setIfInBounds_toArray, List.set_cons_zero, List.set_cons_succ] at hNx ⊢
        rw [if_pos (by rfl)]
        go_simp
        first | refine hNx _ _ ?_ | skip
        exact ⟨(unhide hF).step rfl rfl, (unhide HB).congr (fun k => by rcases k with _ | _ | k <;> simp [EHif])⟩
      refine StepsR.cons 2 rfl ?_ ?_
      · intro L us W hi hdep hR Kx hNx
        have hF := hide hR.1
        have hB := hR.2
        clear hR
        have d0 : L 0 = true := hdep 0 (by kernel_rfl)
        clear hdep
        have e13 : us 13 = vShip ax ay au av ak ad := (unhide hF).get (k := 0) rfl d0
        have HB := hide hB
        clear hB
        simp only [fillA, Act.put, List.setIfInBounds_toArray, List.set_cons_zero, List.set_cons_succ] at hNx ⊢
        simp only [e13] at hNx ⊢
        clear e13
        rw [if_pos (by rfl)]
        have HC := hide (unhide HW1 W)
        go_simp
        refine (unhide HC).mono ?_
        rintro e W' ⟨rfl, hb⟩
        replace HB := hide ((unhide HB).step hb)
        clear hb HC
        go_wp2_with fail
        first | refine hNx _ _ ?_ | skip
        exact ⟨(unhide hF).step rfl rfl, (unhide HB).congr (fun k => by rcases k with _ | _ | k <;> simp [EHif])⟩
      refine StepsR.cons 3 rfl ?_ ?_
      · intro L us W hi hdep hR Kx hNx
        have hF := hide hR.1
        have hB := hR.2
        clear hR
        clear hdep
        have hE : EHif ax ay au av ak ad cx cy cu cv ck cd d b w L us 1 = some (w.heap.size + 1, [.int .i64 cx, .int .i64 cy, .int .i64 cu, .int .i64 cv, .int .i64 ck, .int .i64 cd]) := by simp [EHif]
        have hO := hB.ownV hE
        have c0 := hO.cell (i := 0) rfl
        have c1 := hO.cell (i := 1) rfl
        have c2 := hO.cell (i := 2) rfl
        have c3 := hO.cell (i := 3) rfl
        have c4 := hO.cell (i := 4) rfl
        have c5 := hO.cell (i := 5) rfl
        clear hO
        have HB := hide hB
        clear hB
        have HE := hide hE
        clear hE
        simp only [fillA, Act.put, List.setIfInBounds_toArray, List.set_cons_zero, List.set_cons_succ] at hNx ⊢
        rw [if_pos (by rfl)]
        go_simp
        first | refine hNx _ _ ?_ | skip
        exact ⟨(unhide hF).step rfl rfl, (unhide HB).congr (fun k => by rcases k with _ | _ | k <;> simp [EHif])⟩
      refine StepsR.cons 4 rfl ?_ ?_
      · intro L us W hi hdep hR Kx hNx
        have hF := hide hR.1
        have hB := hR.2
        clear hR
        have d2 : L 2 = true := hdep 2 (by kernel_rfl)
        clear hdep
        have e15 : us 15 = vShip cx cy cu cv ck cd := (unhide hF).get (k := 2) rfl d2
        have HB := hide hB
        clear hB
        simp only [fillA, Act.put, List.setIfInBounds_toArray, List.set_cons_zero, List.set_cons_succ] at hNx ⊢
        simp only [e15] at hNx ⊢
        clear e15
        rw [if_pos (by rfl)]
        have HC := hide (unhide HW2 W)
        go_simp
        refine (unhide HC).mono ?_
        rintro e W' ⟨rfl, hb⟩
        replace HB := hide ((unhide HB).step hb)
        clear hb HC
        go_wp2_with fail
        first | refine hNx _ _ ?_ | skip
        exact ⟨(unhide hF).step rfl rfl, (unhide HB).congr (fun k => by rcases k with _ | _ | k <;> simp [EHif])⟩
      refine StepsR.cons 5 rfl ?_ ?_
      · intro L us W hi hdep hR Kx hNx
        have hF := hide hR.1
        have hB := hR.2
        clear hR
        have d1 : L 1 = true := hdep 1 (by kernel_rfl)
        have d3 : L 3 = true := hdep 3 (by kernel_rfl)
        clear hdep
        have e14 : us 14 = vV au av := (unhide hF).get (k := 1) rfl d1
        have e16 : us 16 = vV cu cv := (unhide hF).get (k := 3) rfl d3
        have HB := hide hB
        clear hB
        simp only [fillA, Act.put, List.setIfInBounds_toArray, List.set_cons_zero, List.set_cons_succ] at hNx ⊢
        simp only [e14, e16] at hNx ⊢
        clear e14 e16
        rw [if_pos (by rfl)]
        have HC := hide (unhide HDo W)
        go_simp
        refine (unhide HC).mono ?_
        rintro e W' ⟨rfl, hb⟩
        replace HB := hide ((unhide HB).step hb)
        clear hb HC
        go_wp2_with fail
        first | refine hNx _ _ ?_ | skip
        exact ⟨(unhide hF).step rfl rfl, (unhide HB).congr (fun k => by rcases k with _ | _ | k <;> simp [EHif])⟩
      refine StepsR.cons 6 rfl ?_ ?_
      · intro L us W hi hdep hR Kx hNx
        have hF := hide hR.1
        have hB := hR.2
        clear hR
        have d4 : L 4 = true := hdep 4 (by kernel_rfl)
        clear hdep
        have e17 : us 17 = .int .i64 d := (unhide hF).get (k := 4) rfl d4
        have HB := hide hB
        clear hB
        simp only [fillA, Act.put, List.setIfInBounds_toArray, List.set_cons_zero, List.set_cons_succ] at hNx ⊢
        simp only [e17] at hNx ⊢
        clear e17
        rw [if_pos (by rfl)]
        go_simp
        first | refine hNx _ _ ?_ | skip
        exact ⟨(unhide hF).step rfl rfl, (unhide HB).congr (fun k => by rcases k with _ | _ | k <;> simp [EHif])⟩
      refine StepsR.cons 7 rfl ?_ ?_
      · intro L us W hi hdep hR Kx hNx
        have hF := hide hR.1
        have hB := hR.2
        clear hR
        have d5 : L 5 = true := hdep 5 (by kernel_rfl)
        clear hdep
        have e18 : us 18 = .bool false := (unhide hF).get (k := 5) rfl d5
        have HB := hide hB
        clear hB
        simp only [fillA, Act.put, List.setIfInBounds_toArray, List.set_cons_zero, List.set_cons_succ] at hNx ⊢
        simp only [e18] at hNx ⊢
        clear e18
        rw [if_pos (by rfl)]
        go_simp
        first | refine hNx _ _ ?_ | skip
        exact ⟨(unhide hF).step rfl rfl, (unhide HB).congr (fun k => by rcases k with _ | _ | k <;> simp [EHif])⟩
      refine StepsR.cons 8 rfl ?_ ?_
      · intro L us W hi hdep hR Kx hNx
        have hF := hide hR.1
        have hB := hR.2
        clear hR
        have d6 : L 6 = true := hdep 6 (by kernel_rfl)
        clear hdep
        have hE : EHif ax ay au av ak ad cx cy cu cv ck cd d b w L us 0 = some (w.heap.size, [.int .i64 ax, .int .i64 ay, .int .i64 au, .int .i64 av, .int .i64 ak, .int .i64 ad]) := by simp [EHif]
        have e19 : us 19 = .bool false := (unhide hF).get (k := 6) rfl d6
        have hO := hB.ownV hE
        have c0 := hO.cell (i := 0) rfl
        have c1 := hO.cell (i := 1) rfl
        have c2 := hO.cell (i := 2) rfl
        have c3 := hO.cell (i := 3) rfl
        have c4 := hO.cell (i := 4) rfl
        have c5 := hO.cell (i := 5) rfl
        clear hO
        have HB := hide hB
        clear hB
        have HE := hide hE
        clear hE
        simp only [fillA, Act.put, List.setIfInBounds_toArray, List.set_cons_zero, List.set_cons_succ] at hNx ⊢
        simp only [e19] at hNx ⊢
        clear e19
        rw [if_pos (by rfl)]
        go_simp
        first | refine hNx _ _ ?_ | skip
        exact ⟨(unhide hF).step rfl rfl, (unhide HB).congr (fun k => by rcases k with _ | _ | k <;> simp [EHif])⟩
      refine StepsR.cons 9 rfl ?_ ?_
      · intro L us W hi hdep hR Kx hNx
        have hF := hide hR.1
        have hB := hR.2
        clear hR
        have d6 : L 6 = true := hdep 6 (by kernel_rfl)
        have d7 : L 7 = true := hdep 7 (by kernel_rfl)
        clear hdep
        have e19 : us 19 = .bool false := (unhide hF).get (k := 6) rfl d6
        have e20 : us 20 = vShip ax ay au av ak ad := (unhide hF).get (k := 7) rfl d7
        have HB := hide hB
        clear hB
        simp only [fillA, Act.put, List.setIfInBounds_toArray, List.set_cons_zero, List.set_cons_succ] at hNx ⊢
        simp only [e19, e20] at hNx ⊢
        clear e19 e20
        rw [if_pos (by rfl)]
        have HC := hide (unhide HW1 W)
        go_simp
        refine (unhide HC).mono ?_
        rintro e W' ⟨rfl, hb⟩
        replace HB := hide ((unhide HB).step hb)
        clear hb HC
        go_wp2_with fail
        first | refine hNx _ _ ?_ | skip
        exact ⟨(unhide hF).step rfl rfl, (unhide HB).congr (fun k => by rcases k with _ | _ | k <;> simp [EHif])⟩
      refine StepsR.cons 10 rfl ?_ ?_
      · intro L us W hi hdep hR Kx hNx
        have hF := hide hR.1
        have hB := hR.2
        clear hR
        have d6 : L 6 = true := hdep 6 (by kernel_rfl)
        clear hdep
        have hE : EHif ax ay au av ak ad cx cy cu cv ck cd d b w L us 1 = some (w.heap.size + 1, [.int .i64 cx, .int .i64 cy, .int .i64 cu, .int .i64 cv, .int .i64 ck, .int .i64 cd]) := by simp [EHif]
        have e19 : us 19 = .bool false := (unhide hF).get (k := 6) rfl d6
        have hO := hB.ownV hE
        have c0 := hO.cell (i := 0) rfl
        have c1 := hO.cell (i := 1) rfl
        have c2 := hO.cell (i := 2) rfl
        have c3 := hO.cell (i := 3) rfl
        have c4 := hO.cell (i := 4) rfl
        have c5 := hO.cell (i := 5) rfl
        clear hO
        have HB := hide hB
        clear hB
        have HE := hide hE
        clear hE
        simp only [fillA, Act.put, List.setIfInBounds_toArray, List.set_cons_zero, List.set_cons_succ] at hNx ⊢
        simp only [e19] at hNx ⊢
        clear e19
        rw [if_pos (by rfl)]
        go_simp
        first | refine hNx _ _ ?_ | skip
        exact ⟨(unhide hF).step rfl rfl, (unhide HB).congr (fun k => by rcases k with _ | _ | k <;> simp [EHif])⟩
      refine StepsR.cons 11 rfl ?_ ?_
      · intro L us W hi hdep hR Kx hNx
        have hF := hide hR.1
        have hB := hR.2
        clear hR
        have d6 : L 6 = true := hdep 6 (by kernel_rfl)
        have d9 : L 9 = true := hdep 9 (by kernel_rfl)
        clear hdep
        have e19 : us 19 = .bool false := (unhide hF).get (k := 6) rfl d6
        have e22 : us 22 = vShip cx cy cu cv ck cd := (unhide hF).get (k := 9) rfl d9
        have HB := hide hB
        clear hB
        simp only [fillA, Act.put, List.setIfInBounds_toArray, List.set_cons_zero, List.set_cons_succ] at hNx ⊢
        simp only [e19, e22] at hNx ⊢
        clear e19 e22
        rw [if_pos (by rfl)]
        have HC := hide (unhide HW2 W)
        go_simp
        refine (unhide HC).mono ?_
        rintro e W' ⟨rfl, hb⟩
        replace HB := hide ((unhide HB).step hb)
        clear hb HC
        go_wp2_with fail
        first | refine hNx _ _ ?_ | skip
        exact ⟨(unhide hF).step rfl rfl, (unhide HB).congr (fun k => by rcases k with _ | _ | k <;> simp [EHif])⟩
      refine StepsR.cons 12 rfl ?_ ?_
      · intro L us W hi hdep hR Kx hNx
        have hF := hide hR.1
        have hB := hR.2
        clear hR
        have d6 : L 6 = true := hdep 6 (by kernel_rfl)
        have d8 : L 8 = true := hdep 8 (by kernel_rfl)
        have d10 : L 10 = true := hdep 10 (by kernel_rfl)
        clear hdep
        have e19 : us 19 = .bool false := (unhide hF).get (k := 6) rfl d6
        have e21 : us 21 = vV au av := (unhide hF).get (k := 8) rfl d8
        have e23 : us 23 = vV cu cv := (unhide hF).get (k := 10) rfl d10
        have HB := hide hB
        clear hB
        simp only [fillA, Act.put, List.setIfInBounds_toArray, List.set_cons_zero, List.set_cons_succ] at hNx ⊢
        simp only [e19, e21, e23] at hNx ⊢
        clear e19 e21 e23
        rw [if_pos (by rfl)]
        have HC := hide (unhide HBs W)
        go_simp
        refine (unhide HC).mono ?_
        rintro e W' ⟨rfl, hb⟩
        replace HB := hide ((unhide HB).step hb)
        clear hb HC
        go_wp2_with fail
        first | refine hNx _ _ ?_ | skip
        exact ⟨(unhide hF).step rfl rfl, (unhide HB).congr (fun k => by rcases k with _ | _ | k <;> simp [EHif])⟩
      refine StepsR.cons 13 rfl ?_ ?_
      · intro L us W hi hdep hR Kx hNx
        have hF := hide hR.1
        have hB := hR.2
        clear hR
        have d6 : L 6 = true := hdep 6 (by kernel_rfl)
        have d11 : L 11 = true := hdep 11 (by kernel_rfl)
        clear hdep
        have e19 : us 19 = .bool false := (unhide hF).get (k := 6) rfl d6
        have e24 : us 24 = .bool b := (unhide hF).get (k := 11) rfl d11
        have HB := hide hB
        clear hB
        simp only [fillA, Act.put, List.setIfInBounds_toArray, List.set_cons_zero, List.set_cons_succ] at hNx ⊢
        simp only [e19, e24] at hNx ⊢
        clear e19 e24
        rw [if_pos (by rfl)]
        go_simp
        first | refine hNx _ _ ?_ | skip
        exact ⟨(unhide hF).step rfl rfl, (unhide HB).congr (fun k => by rcases k with _ | _ | k <;> simp [EHif])⟩
      refine StepsR.cons 14 rfl ?_ ?_
      · intro L us W hi hdep hR Kx hNx
        have hF := hide hR.1
        have hB := hR.2
        clear hR
        have d6 : L 6 = true := hdep 6 (by kernel_rfl)
        have d12 : L 12 = true := hdep 12 (by kernel_rfl)
        clear hdep
        have e19 : us 19 = .bool false := (unhide hF).get (k := 6) rfl d6
        have e25 : us 25 = .bool (!b) := (unhide hF).get (k := 12) rfl d12
        have HB := hide hB
        clear hB
        simp only [fillA, Act.put, List.setIfInBounds_toArray, List.set_cons_zero, List.set_cons_succ] at hNx ⊢
        simp only [e19, e25] at hNx ⊢
        clear e19 e25
        rw [if_pos (by rfl)]
        go_simp
        first | refine hNx _ _ ?_ | skip
        exact ⟨(unhide hF).step rfl rfl, (unhide HB).congr (fun k => by rcases k with _ | _ | k <;> simp [EHif])⟩
      exact StepsR.nil
    · intro L us W hL hR
      have hF := hide hR.1
      have hB := hR.2
      clear hR
      have hE0 : EHif ax ay au av ak ad cx cy cu cv ck cd d b w L us 0 = some (w.heap.size, [.int .i64 ax, .int .i64 ay, .int .i64 au, .int .i64 av, .int .i64 ak, .int .i64 ad]) := by simp [EHif]
      have hO0 := hB.ownV hE0
      have hE1 : EHif ax ay au av ak ad cx cy cu cv ck cd d b w L us 1 = some (w.heap.size + 1, [.int .i64 cx, .int .i64 cy, .int .i64 cu, .int .i64 cv, .int .i64 ck, .int .i64 cd]) := by simp [EHif]
      have hO1 := hB.ownV hE1
      clear hE0 hE1
      have HA : Hid (Bk w W (XHif ax ay au av ak ad cx cy cu cv ck cd d b w)) := hide (hB.congr (fun k => by rcases k with _ | _ | k <;> simp [EHif, XHif]))
      have f0 : us 13 = vShip ax ay au av ak ad := (unhide hF).get (k := 0) rfl (hL 0 (by decide))
      have f1 : us 14 = vV au av := (unhide hF).get (k := 1) rfl (hL 1 (by decide))
      have f2 : us 15 = vShip cx cy cu cv ck cd := (unhide hF).get (k := 2) rfl (hL 2 (by decide))
      have f3 : us 16 = vV cu cv := (unhide hF).get (k := 3) rfl (hL 3 (by decide))
      have f4 : us 17 = .int .i64 d := (unhide hF).get (k := 4) rfl (hL 4 (by decide))
      have f5 : us 18 = .bool false := (unhide hF).get (k := 5) rfl (hL 5 (by decide))
      have f6 : us 19 = .bool false := (unhide hF).get (k := 6) rfl (hL 6 (by decide))
      have f7 : us 20 = vShip ax ay au av ak ad := (unhide hF).get (k := 7) rfl (hL 7 (by decide))
      have f8 : us 21 = vV au av := (unhide hF).get (k := 8) rfl (hL 8 (by decide))
      have f9 : us 22 = vShip cx cy cu cv ck cd := (unhide hF).get (k := 9) rfl (hL 9 (by decide))
      have f10 : us 23 = vV cu cv := (unhide hF).get (k := 10) rfl (hL 10 (by decide))
      have f11 : us 24 = .bool b := (unhide hF).get (k := 11) rfl (hL 11 (by decide))
      have f12 : us 25 = .bool (!b) := (unhide hF).get (k := 12) rfl (hL 12 (by decide))
      have f13 : us 26 = .bool (!b) := (unhide hF).get (k := 13) rfl (hL 13 (by decide))
      have HW := hide hB.below
      clear hB hL
      simp only [fillA, Act.put, List.setIfInBounds_toArray, List.set_cons_zero, List.set_cons_succ]
      simp only [f0, f1, f2, f3, f4, f5, f6, f7, f8, f9, f10, f11, f12, f13]
      clear hF f0 f1 f2 f3 f4 f5 f6 f7 f8 f9 f10 f11 f12 f13
      clear us L
      clear hO0 hO1 HW1 HW2 HDo HBs HB hd HW
      cases b
      · have HW := hide (unhide HA).below
        go_wp2
        go_ret
        exact ⟨ret_bool (by rw [unhide HT, unhide HV]; rfl), unhide HW⟩
      have hq := (unhide HA).ownV (k := 0) rfl
      have c0 := hq.cell (i := 0) rfl
      have c1 := hq.cell (i := 1) rfl
      have c2 := hq.cell (i := 2) rfl
      have c3 := hq.cell (i := 3) rfl
      have c4 := hq.cell (i := 4) rfl
      have c5 := hq.cell (i := 5) rfl
      clear hq
      have hq := (unhide HA).ownV (k := 1) rfl
      have e0 := hq.cell (i := 0) rfl
      have e1 := hq.cell (i := 1) rfl
      have e2 := hq.cell (i := 2) rfl
      have e3 := hq.cell (i := 3) rfl
      have e4 := hq.cell (i := 4) rfl
      have e5 := hq.cell (i := 5) rfl
      clear hq
      go_wp2_with fail
      refine (unhide HA1 _).mono ?_
      rintro e w3 ⟨rfl, hb⟩
      replace HA := hide ((unhide HA).step hb)
      clear hb HA1 c0 c1 c2 c3 c4 c5 e0 e1 e2 e3 e4 e5
      cases x
      · have HW := hide (unhide HA).below
        go_wp2
        go_ret
        exact ⟨ret_bool (by rw [unhide HT, unhide HV]; rfl), unhide HW⟩
      have hq := (unhide HA).ownV (k := 0) rfl
      have c0 := hq.cell (i := 0) rfl
      have c1 := hq.cell (i := 1) rfl
      have c2 := hq.cell (i := 2) rfl
      have c3 := hq.cell (i := 3) rfl
      have c4 := hq.cell (i := 4) rfl
      have c5 := hq.cell (i := 5) rfl
      clear hq
      have hq := (unhide HA).ownV (k := 1) rfl
      have e0 := hq.cell (i := 0) rfl
      have e1 := hq.cell (i := 1) rfl
      have e2 := hq.cell (i := 2) rfl
      have e3 := hq.cell (i := 3) rfl
      have e4 := hq.cell (i := 4) rfl
      have e5 := hq.cell (i := 5) rfl
      clear hq
      go_wp2_with fail
      refine (unhide HA2 _).mono ?_
      rintro e w4 ⟨rfl, hb⟩
      replace HA := hide ((unhide HA).step hb)
      clear hb HA2 c0 c1 c2 c3 c4 c5 e0 e1 e2 e3 e4 e5
      have HW := hide (unhide HA).below
      go_wp2
      go_ret
      exact ⟨ret_bool (by rw [unhide HT, unhide HV]; simp), unhide HW⟩

def EHsb (ax ay au av ak ad cx cy cu cv ck cd : Int) (w : World) (L : Nat → Bool) (us : Nat → Value) : Nat → Option (Nat × List Value)
  | 0 => some (w.heap.size, [.int .i64 ax, .int .i64 ay, .int .i64 au, .int .i64 av, .int .i64 ak, .int .i64 ad])
  | 1 => some (w.heap.size + 1, [.int .i64 cx, .int .i64 cy, .int .i64 cu, .int .i64 cv, .int .i64 ck, .int .i64 cd])
  | 2 => if L 4 then some ((gOf (us 5)), (if L 6 then [.int .i64 au, .int .i64 av] else [.int .i64 0, .int .i64 0])) else none
  | 3 => if L 5 then some ((gOf (us 6)), (if L 7 then [.int .i64 cu, .int .i64 cv] else [.int .i64 0, .int .i64 0])) else none
  | _ => none
def FHsb (ax ay au av ak ad cx cy cu cv ck cd : Int) : FL := [(0, 15, vShip ax ay au av ak ad), (1, 16, vV au av), (2, 17, vShip cx cy cu cv ck cd), (3, 18, vV cu cv)]
def RHsb (ax ay au av ak ad cx cy cu cv ck cd : Int) (w : World) (L : Nat → Bool) (us : Nat → Value) (W : World) : Prop :=
  Facts L us (FHsb ax ay au av ak ad cx cy cu cv ck cd) ∧ (L 4 = true → us 5 = .pointer (some ⟨gOf (us 5), 0, none⟩)) ∧ (L 5 = true → us 6 = .pointer (some ⟨gOf (us 6), 0, none⟩)) ∧ (L 6 = true → L 4 = true) ∧ (L 7 = true → L 5 = true) ∧ Bk w W (EHsb ax ay au av ak ad cx cy cu cv ck cd w L us)
def XHsb (ax ay au av ak ad cx cy cu cv ck cd : Int) (w : World) (g5 g6 : Nat) : Nat → Option (Nat × List Value)
  | 0 => some (w.heap.size, [.int .i64 ax, .int .i64 ay, .int .i64 au, .int .i64 av, .int .i64 ak, .int .i64 ad])
  | 1 => some (w.heap.size + 1, [.int .i64 cx, .int .i64 cy, .int .i64 cu, .int .i64 cv, .int .i64 ck, .int .i64 cd])
  | 2 => some (g5, [.int .i64 au, .int .i64 av])
  | 3 => some (g6, [.int .i64 cu, .int .i64 cv])
  | _ => none
def EHs1 (ax ay au av ak ad cx cy cu cv ck cd _k _d : Int) (_b _x _y : Bool) (g5 g6 : Nat) (w : World) (_L : Nat → Bool) (_us : Nat → Value) : Nat → Option (Nat × List Value)
  | 0 => some (w.heap.size, [.int .i64 ax, .int .i64 ay, .int .i64 au, .int .i64 av, .int .i64 ak, .int .i64 ad])
  | 1 => some (w.heap.size + 1, [.int .i64 cx, .int .i64 cy, .int .i64 cu, .int .i64 cv, .int .i64 ck, .int .i64 cd])
  | 2 => some (g5, [.int .i64 au, .int .i64 av])
  | 3 => some (g6, [.int .i64 cu, .int .i64 cv])
  | _ => none
def FHs1 (_ax _ay au av _ak _ad _cx _cy cu cv _ck _cd _k d : Int) (_b _x _y : Bool) (_g5 _g6 : Nat) : FL := [(0, 19, vV au av), (1, 20, vV cu cv), (2, 21, .int .i64 d), (3, 22, .bool false), (4, 23, .bool false), (5, 24, undef), (6, 25, undef), (7, 26, undef), (8, 27, undef), (9, 28, undef), (10, 29, undef), (11, 30, undef), (12, 31, .bool false), (13, 32, .bool false), (14, 33, undef), (15, 34, undef), (16, 35, undef), (17, 36, .bool false), (18, 37, .bool false), (19, 38, undef), (20, 39, undef), (21, 40, undef), (22, 41, .bool false), (23, 4, .bool false)]
def RHs1 (ax ay au av ak ad cx cy cu cv ck cd k d : Int) (b x y : Bool) (g5 g6 : Nat) (w : World) (L : Nat → Bool) (us : Nat → Value) (W : World) : Prop :=
  Facts L us (FHs1 ax ay au av ak ad cx cy cu cv ck cd k d b x y g5 g6) ∧ Bk w W (EHs1 ax ay au av ak ad cx cy cu cv ck cd k d b x y g5 g6 w L us)
def XHs1 (ax ay au av ak ad cx cy cu cv ck cd _k _d : Int) (_b _x _y : Bool) (g5 g6 : Nat) (w : World) : Nat → Option (Nat × List Value)
  | 0 => some (w.heap.size, [.int .i64 ax, .int .i64 ay, .int .i64 au, .int .i64 av, .int .i64 ak, .int .i64 ad])
  | 1 => some (w.heap.size + 1, [.int .i64 cx, .int .i64 cy, .int .i64 cu, .int .i64 cv, .int .i64 ck, .int .i64 cd])
  | 2 => some (g5, [.int .i64 au, .int .i64 av])
  | 3 => some (g6, [.int .i64 cu, .int .i64 cv])
  | _ => none
def EHs2 (ax ay au av ak ad cx cy cu cv ck cd _k _d : Int) (_b _x _y : Bool) (g5 g6 : Nat) (w : World) (_L : Nat → Bool) (_us : Nat → Value) : Nat → Option (Nat × List Value)
  | 0 => some (w.heap.size, [.int .i64 ax, .int .i64 ay, .int .i64 au, .int .i64 av, .int .i64 ak, .int .i64 ad])
  | 1 => some (w.heap.size + 1, [.int .i64 cx, .int .i64 cy, .int .i64 cu, .int .i64 cv, .int .i64 ck, .int .i64 cd])
  | 2 => some (g5, [.int .i64 au, .int .i64 av])
  | 3 => some (g6, [.int .i64 cu, .int .i64 cv])
  | _ => none
def FHs2 (_ax _ay au av _ak _ad _cx _cy cu cv _ck _cd k d : Int) (_b _x _y : Bool) (_g5 _g6 : Nat) : FL := [(0, 19, vV au av), (1, 20, vV cu cv), (2, 21, .int .i64 d), (3, 22, .bool true), (4, 23, .bool true), (5, 24, vV au av), (6, 25, vV cu cv), (7, 26, .int .i64 k), (8, 27, vV au av), (9, 28, vV cu cv), (10, 29, .int .i64 d), (11, 30, .bool false), (12, 31, .bool false), (13, 32, .bool false), (14, 33, undef), (15, 34, undef), (16, 35, undef), (17, 36, .bool false), (18, 37, .bool false), (19, 38, undef), (20, 39, undef), (21, 40, undef), (22, 41, .bool false), (23, 4, .bool false)]
def RHs2 (ax ay au av ak ad cx cy cu cv ck cd k d : Int) (b x y : Bool) (g5 g6 : Nat) (w : World) (L : Nat → Bool) (us : Nat → Value) (W : World) : Prop :=
  Facts L us (FHs2 ax ay au av ak ad cx cy cu cv ck cd k d b x y g5 g6) ∧ Bk w W (EHs2 ax ay au av ak ad cx cy cu cv ck cd k d b x y g5 g6 w L us)
def XHs2 (ax ay au av ak ad cx cy cu cv ck cd _k _d : Int) (_b _x _y : Bool) (g5 g6 : Nat) (w : World) : Nat → Option (Nat × List Value)
  | 0 => some (w.heap.size, [.int .i64 ax, .int .i64 ay, .int .i64 au, .int .i64 av, .int .i64 ak, .int .i64 ad])
  | 1 => some (w.heap.size + 1, [.int .i64 cx, .int .i64 cy, .int .i64 cu, .int .i64 cv, .int .i64 ck, .int .i64 cd])
  | 2 => some (g5, [.int .i64 au, .int .i64 av])
  | 3 => some (g6, [.int .i64 cu, .int .i64 cv])
  | _ => none
def EHs3 (ax ay au av ak ad cx cy cu cv ck cd _k _d : Int) (_b _x _y : Bool) (g5 g6 : Nat) (w : World) (_L : Nat → Bool) (_us : Nat → Value) : Nat → Option (Nat × List Value)
  | 0 => some (w.heap.size, [.int .i64 ax, .int .i64 ay, .int .i64 au, .int .i64 av, .int .i64 ak, .int .i64 ad])
  | 1 => some (w.heap.size + 1, [.int .i64 cx, .int .i64 cy, .int .i64 cu, .int .i64 cv, .int .i64 ck, .int .i64 cd])
  | 2 => some (g5, [.int .i64 au, .int .i64 av])
  | 3 => some (g6, [.int .i64 cu, .int .i64 cv])
  | _ => none
def FHs3 (ax ay au av ak ad cx cy cu cv ck cd k d : Int) (_b _x _y : Bool) (_g5 _g6 : Nat) : FL := [(0, 19, vV au av), (1, 20, vV cu cv), (2, 21, .int .i64 d), (3, 22, .bool true), (4, 23, .bool true), (5, 24, vV au av), (6, 25, vV cu cv), (7, 26, .int .i64 k), (8, 27, vV au av), (9, 28, vV cu cv), (10, 29, .int .i64 d), (11, 30, .bool true), (12, 31, .bool true), (13, 32, .bool true), (14, 33, vShip ax ay au av ak ad), (15, 34, vShip cx cy cu cv ck cd), (16, 35, .bool false), (17, 36, .bool false), (18, 37, .bool false), (19, 38, undef), (20, 39, undef), (21, 40, undef), (22, 41, .bool false), (23, 4, .bool false)]
def RHs3 (ax ay au av ak ad cx cy cu cv ck cd k d : Int) (b x y : Bool) (g5 g6 : Nat) (w : World) (L : Nat → Bool) (us : Nat → Value) (W : World) : Prop :=
  Facts L us (FHs3 ax ay au av ak ad cx cy cu cv ck cd k d b x y g5 g6) ∧ Bk w W (EHs3 ax ay au av ak ad cx cy cu cv ck cd k d b x y g5 g6 w L us)
def XHs3 (ax ay au av ak ad cx cy cu cv ck cd _k _d : Int) (_b _x _y : Bool) (g5 g6 : Nat) (w : World) : Nat → Option (Nat × List Value)
  | 0 => some (w.heap.size, [.int .i64 ax, .int .i64 ay, .int .i64 au, .int .i64 av, .int .i64 ak, .int .i64 ad])
  | 1 => some (w.heap.size + 1, [.int .i64 cx, .int .i64 cy, .int .i64 cu, .int .i64 cv, .int .i64 ck, .int .i64 cd])
  | 2 => some (g5, [.int .i64 au, .int .i64 av])
  | 3 => some (g6, [.int .i64 cu, .int .i64 cv])
  | _ => none
def EHs4 (ax ay au av ak ad cx cy cu cv ck cd _k _d : Int) (_b _x _y : Bool) (g5 g6 : Nat) (w : World) (_L : Nat → Bool) (_us : Nat → Value) : Nat → Option (Nat × List Value)
  | 0 => some (w.heap.size, [.int .i64 ax, .int .i64 ay, .int .i64 au, .int .i64 av, .int .i64 ak, .int .i64 ad])
  | 1 => some (w.heap.size + 1, [.int .i64 cx, .int .i64 cy, .int .i64 cu, .int .i64 cv, .int .i64 ck, .int .i64 cd])
  | 2 => some (g5, [.int .i64 au, .int .i64 av])
  | 3 => some (g6, [.int .i64 cu, .int .i64 cv])
  | _ => none
def FHs4 (ax ay au av ak ad cx cy cu cv ck cd k d : Int) (_b _x y : Bool) (_g5 _g6 : Nat) : FL := [(0, 19, vV au av), (1, 20, vV cu cv), (2, 21, .int .i64 d), (3, 22, .bool true), (4, 23, .bool true), (5, 24, vV au av), (6, 25, vV cu cv), (7, 26, .int .i64 k), (8, 27, vV au av), (9, 28, vV cu cv), (10, 29, .int .i64 d), (11, 30, .bool true), (12, 31, .bool true), (13, 32, .bool true), (14, 33, vShip ax ay au av ak ad), (15, 34, vShip cx cy cu cv ck cd), (16, 35, .bool true), (17, 36, .bool true), (18, 37, .bool true), (19, 38, vShip cx cy cu cv ck cd), (20, 39, vShip ax ay au av ak ad), (21, 40, .bool y), (22, 41, .bool y), (23, 4, .bool y)]
def RHs4 (ax ay au av ak ad cx cy cu cv ck cd k d : Int) (b x y : Bool) (g5 g6 : Nat) (w : World) (L : Nat → Bool) (us : Nat → Value) (W : World) : Prop :=
  Facts L us (FHs4 ax ay au av ak ad cx cy cu cv ck cd k d b x y g5 g6) ∧ Bk w W (EHs4 ax ay au av ak ad cx cy cu cv ck cd k d b x y g5 g6 w L us)
def XHs4 (ax ay au av ak ad cx cy cu cv ck cd _k _d : Int) (_b _x _y : Bool) (g5 g6 : Nat) (w : World) : Nat → Option (Nat × List Value)
  | 0 => some (w.heap.size, [.int .i64 ax, .int .i64 ay, .int .i64 au, .int .i64 av, .int .i64 ak, .int .i64 ad])
  | 1 => some (w.heap.size + 1, [.int .i64 cx, .int .i64 cy, .int .i64 cu, .int .i64 cv, .int .i64 ck, .int .i64 cd])
  | 2 => some (g5, [.int .i64 au, .int .i64 av])
  | 3 => some (g6, [.int .i64 cu, .int .i64 cv])
  | _ => none
end Go.Proofs.Ytcljgaofpeaplaa

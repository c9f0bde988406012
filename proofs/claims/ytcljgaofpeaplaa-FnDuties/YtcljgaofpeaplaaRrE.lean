/- The program's Behind, isAhead, isOnRight. Written by wip/mkrr5.py. -/
import Derived.Test.YtcljgaofpeaplaaRrD
namespace Go.Proofs.Ytcljgaofpeaplaa
open Go.RowKit

theorem shipB_bd {x y u v k d : Int} (h : shipB x y u v k d = true) : -100000 ≤ x ∧ x ≤ 100000 ∧ -100000 ≤ y ∧ y ≤ 100000 ∧ -1000 ≤ u ∧ u ≤ 1000 ∧ -1000 ≤ v ∧ v ≤ 1000 := by
  unfold shipB at h
  simp only [Bool.and_eq_true] at h
  obtain ⟨⟨⟨⟨⟨⟨h1, h2⟩, h3⟩, h4⟩, _⟩, _⟩, _⟩ := h
  have a1 := inB_true h1
  have a2 := inB_true h2
  have a3 := inB_true h3
  have a4 := inB_true h4
  exact ⟨a1.1, a1.2, a2.1, a2.2, a3.1, a3.2, a4.1, a4.2⟩
/-- The dot of r and h is below 0, and they lie near one another. -/
def bhB (p q r s : Int) : Bool := decide (p * r + q * s < 0) && bes 5 29 p q r s
def ahB (p q r s : Int) : Bool := decide (0 < p * r + q * s) && bes 100 1 p q r s
theorem bhB_zero {p q : Int} (r s : Int) (h : (p == 0 && q == 0) = true) : bhB p q r s = false := by
  simp only [Bool.and_eq_true, beq_iff_eq] at h
  obtain ⟨rfl, rfl⟩ := h
  simp [bhB]
theorem ahB_zero {p q : Int} (r s : Int) (h : (p == 0 && q == 0) = true) : ahB p q r s = false := by
  simp only [Bool.and_eq_true, beq_iff_eq] at h
  obtain ⟨rfl, rfl⟩ := h
  simp [ahB]
/-- Whether a is behind c. -/
def behB (ax ay au av ak ad cx cy cu cv ck cd : Int) : Bool := shipB ax ay au av ak ad && (shipB cx cy cu cv ck cd && bhB (ax - cx) (ay - cy) cu cv)
/-- Whether a sees c nearly where it goes itself. -/
def ahdB (ax ay au av _ak _ad cx cy _cu _cv _ck _cd : Int) : Bool := ahB (cx - ax) (cy - ay) au av
/-- Whether c is on the right hand of a. -/
def rgtB (ax ay au av _ak _ad cx cy _cu _cv _ck _cd : Int) : Bool := decide (au * (cy - ay) - av * (cx - ax) < 0)

def EBeh (ax ay au av ak ad cx cy cu cv ck cd p q : Int) (w : World) (L : Nat → Bool) (us : Nat → Value) : Nat → Option (Nat × List Value)
  | 0 => some (w.heap.size, [.int .i64 ax, .int .i64 ay, .int .i64 au, .int .i64 av, .int .i64 ak, .int .i64 ad])
  | 1 => some (w.heap.size + 1, [.int .i64 cx, .int .i64 cy, .int .i64 cu, .int .i64 cv, .int .i64 ck, .int .i64 cd])
  | 2 => if L 5 then some ((gOf (us 5)), (if L 7 then [.int .i64 p, .int .i64 q] else [.int .i64 0, .int .i64 0])) else none
  | 3 => if L 6 then some ((gOf (us 6)), (if L 8 then [.int .i64 cu, .int .i64 cv] else [.int .i64 0, .int .i64 0])) else none
  | _ => none
def FBeh (ax ay au av ak ad cx cy cu cv ck cd p q : Int) : FL := [(0, 15, vShip ax ay au av ak ad), (1, 16, vShip cx cy cu cv ck cd), (2, 17, vV p q), (3, 18, vShip cx cy cu cv ck cd), (4, 19, vV cu cv)]
def RBeh (ax ay au av ak ad cx cy cu cv ck cd p q : Int) (w : World) (L : Nat → Bool) (us : Nat → Value) (W : World) : Prop :=
  Facts L us (FBeh ax ay au av ak ad cx cy cu cv ck cd p q) ∧ (L 5 = true → us 5 = .pointer (some ⟨gOf (us 5), 0, none⟩)) ∧ (L 6 = true → us 6 = .pointer (some ⟨gOf (us 6), 0, none⟩)) ∧ (L 7 = true → L 5 = true) ∧ (L 8 = true → L 6 = true) ∧ Bk w W (EBeh ax ay au av ak ad cx cy cu cv ck cd p q w L us)
def XBeh (ax ay au av ak ad cx cy cu cv ck cd p q : Int) (w : World) (g5 g6 : Nat) : Nat → Option (Nat × List Value)
  | 0 => some (w.heap.size, [.int .i64 ax, .int .i64 ay, .int .i64 au, .int .i64 av, .int .i64 ak, .int .i64 ad])
  | 1 => some (w.heap.size + 1, [.int .i64 cx, .int .i64 cy, .int .i64 cu, .int .i64 cv, .int .i64 ck, .int .i64 cd])
  | 2 => some (g5, [.int .i64 p, .int .i64 q])
  | 3 => some (g6, [.int .i64 cu, .int .i64 cv])
  | _ => none
set_option maxRecDepth 10000 in
set_option maxHeartbeats 3200000 in
theorem implBehind_any (ax ay au av ak ad cx cy cu cv ck cd : Int) (w : World) :
    Calls Try.prog 36 #[vShip ax ay au av ak ad, vShip cx cy cu cv ck cd] w fun e w' => e = .returned (.bool (behB ax ay au av ak ad cx cy cu cv ck cd)) ∧ Below w.heap.size w w' := by
  have HB := hide (bk_two w #[.int .i64 ax, .int .i64 ay, .int .i64 au, .int .i64 av, .int .i64 ak, .int .i64 ad] #[.int .i64 cx, .int .i64 cy, .int .i64 cu, .int .i64 cv, .int .i64 ck, .int .i64 cd] 25 25)
  have HS1 := hide fun W => implShipOk_any ax ay au av ak ad W
  have HS2 := hide fun W => implShipOk_any cx cy cu cv ck cd W
  unfold vShip at HS1 HS2 ⊢
  go_enter Try.func36, Try.ntmps36
  go_wp2_with fail
  refine (unhide HS1 _).mono ?_
  rintro e w1 ⟨rfl, hb⟩
  replace HB := hide ((unhide HB).step hb)
  clear hb HS1
  cases h1 : shipB ax ay au av ak ad
  · have HN : Hid (behB ax ay au av ak ad cx cy cu cv ck cd = false) := by show _ = _; unfold behB; rw [h1]; simp
    clear h1 HS2
    go_wp2
    go_ret
    exact ⟨ret_bool (unhide HN).symm, (unhide HB).below⟩
  have hq := (unhide HB).ownV (k := 1) rfl
  have c0 := hq.cell (i := 0) rfl
  have c1 := hq.cell (i := 1) rfl
  have c2 := hq.cell (i := 2) rfl
  have c3 := hq.cell (i := 3) rfl
  have c4 := hq.cell (i := 4) rfl
  have c5 := hq.cell (i := 5) rfl
  clear hq
  go_wp2_with fail
  refine (unhide HS2 _).mono ?_
  rintro e w2 ⟨rfl, hb⟩
  replace HB := hide ((unhide HB).step hb)
  clear hb HS2 c0 c1 c2 c3 c4 c5
  cases h2 : shipB cx cy cu cv ck cd
  · have HN : Hid (behB ax ay au av ak ad cx cy cu cv ck cd = false) := by show _ = _; unfold behB; rw [h2]; simp
    clear h1 h2
    go_wp2
    go_ret
    exact ⟨ret_bool (unhide HN).symm, (unhide HB).below⟩
  obtain ⟨ba0, ba1, ba2, ba3, ba4, ba5, ba6, ba7⟩ := shipB_bd h1
  obtain ⟨bc0, bc1, bc2, bc3, bc4, bc5, bc6, bc7⟩ := shipB_bd h2
  have HBe := hide fun W => implBearing_any ax ay au av ak ad cx cy cu cv ck cd W ba0 ba1 ba2 ba3 bc0 bc1 bc2 bc3
  have HWa := hide fun W => implWay_any cx cy cu cv ck cd W
  obtain ⟨p, ep⟩ : ∃ z, z = ax - cx := ⟨_, rfl⟩
  obtain ⟨q, eq⟩ : ∃ z, z = ay - cy := ⟨_, rfl⟩
  have n1 : p.natAbs ≤ 200000 := by omega
  have n2 : q.natAbs ≤ 200000 := by omega
  have n3 : cu.natAbs ≤ 1000 := by omega
  have n4 : cv.natAbs ≤ 1000 := by omega
  have HT : Hid (behB ax ay au av ak ad cx cy cu cv ck cd = bhB p q cu cv) := by show _ = _; unfold behB; rw [h1, h2, ep, eq]; rfl
  rw [← ep, ← eq] at HBe
  clear ep eq h1 h2 ba0 ba1 ba2 ba3 ba4 ba5 ba6 ba7 bc0 bc1 bc2 bc3 bc4 bc5 bc6 bc7
  go_wp2_with fail
  have HB0 : Hid (∀ us, Bk w _ (EBeh ax ay au av ak ad cx cy cu cv ck cd p q w (fun _ => false) us)) := hide (fun us => ((unhide HB)).congr (fun k => by rcases k with _ | _ | _ | _ | k <;> simp [EBeh, E2]))
  refine wp_region_slots [15, 16, 17, 18, 19, 5, 6] (RBeh ax ay au av ak ad cx cy cu cv ck cd p q w) (by kernel_rfl) (by kernel_rfl) (by decide) (by kernel_rfl) ?_ ?_ ?_
  · intro us
    exact ⟨facts_start us _, fun h => (by cases h), fun h => (by cases h), fun h => (by cases h), fun h => (by cases h), (unhide HB0 us).drew⟩
  · clear HB0
    refine StepsR.cons 1 rfl ?_ ?_
    · intro L us W hi hdep hR Kx hNx
      have hF := hide hR.1
      have f5 := hide hR.2.1
      have f6 := hide hR.2.2.1
      have f7 := hide hR.2.2.2.1
      have f8 := hide hR.2.2.2.2.1
      have hB := hR.2.2.2.2.2
      clear hR
      clear hdep
      have hE : EBeh ax ay au av ak ad cx cy cu cv ck cd p q w L us 0 = some (w.heap.size, [.int .i64 ax, .int .i64 ay, .int .i64 au, .int .i64 av, .int .i64 ak, .int .i64 ad]) := by simp [EBeh]
      have hO := hB.ownV hE
      have c0 := hO.cell (i := 0) rfl
      have c1 := hO.cell (i := 1) rfl
      have c2 := hO.cell (i := 2) rfl
      have c3 := hO.cell (i := 3) rfl
      have c4 := hO.cell (i := 4) rfl
      have c5 := hO.cell (i := 5) rfl
      clear hO
      have HB := hide hB
      clear hB
      have HE := hide hE
      clear hE
      simp only [fillA, Act.put, List.setIfInBounds_toArray, List.set_cons_zero, List.set_cons_succ] at hNx ⊢
      rw [if_pos (by rfl)]
      go_simp
      first | refine hNx _ _ ?_ | skip
      exact ⟨(unhide hF).step rfl rfl, keepG (unhide f5) (by decide) (by decide), keepG (unhide f6) (by decide) (by decide), keepL (unhide f7) (by decide), keepL (unhide f8) (by decide), (unhide HB).congr (fun k => by rcases k with _ | _ | _ | _ | k <;> simp [EBeh])⟩
    refine StepsR.cons 2 rfl ?_ ?_
    · intro L us W hi hdep hR Kx hNx
      have hF := hide hR.1
      have f5 := hide hR.2.1
      have f6 := hide hR.2.2.1
      have f7 := hide hR.2.2.2.1
      have f8 := hide hR.2.2.2.2.1
      have hB := hR.2.2.2.2.2
      clear hR
      clear hdep
      have hE : EBeh ax ay au av ak ad cx cy cu cv ck cd p q w L us 1 = some (w.heap.size + 1, [.int .i64 cx, .int .i64 cy, .int .i64 cu, .int .i64 cv, .int .i64 ck, .int .i64 cd]) := by simp [EBeh]
      have hO := hB.ownV hE
      have c0 := hO.cell (i := 0) rfl
      have c1 := hO.cell (i := 1) rfl
      have c2 := hO.cell (i := 2) rfl
      have c3 := hO.cell (i := 3) rfl
      have c4 := hO.cell (i := 4) rfl
      have c5 := hO.cell (i := 5) rfl
      clear hO
      have HB := hide hB
      clear hB
      have HE := hide hE
      clear hE
      simp only [fillA, Act.put, List.setIfInBounds_toArray, List.set_cons_zero, List.set_cons_succ] at hNx ⊢
      rw [if_pos (by rfl)]
      go_simp
      first | refine hNx _ _ ?_ | skip
      exact ⟨(unhide hF).step rfl rfl, keepG (unhide f5) (by decide) (by decide), keepG (unhide f6) (by decide) (by decide), keepL (unhide f7) (by decide), keepL (unhide f8) (by decide), (unhide HB).congr (fun k => by rcases k with _ | _ | _ | _ | k <;> simp [EBeh])⟩
    refine StepsR.cons 3 rfl ?_ ?_
    · intro L us W hi hdep hR Kx hNx
      have hF := hide hR.1
      have f5 := hide hR.2.1
      have f6 := hide hR.2.2.1
      have f7 := hide hR.2.2.2.1
      have f8 := hide hR.2.2.2.2.1
      have hB := hR.2.2.2.2.2
      clear hR
      have d0 : L 0 = true := hdep 0 (by kernel_rfl)
      have d1 : L 1 = true := hdep 1 (by kernel_rfl)
      clear hdep
      have e15 : us 15 = vShip ax ay au av ak ad := (unhide hF).get (k := 0) rfl d0
      have e16 : us 16 = vShip cx cy cu cv ck cd := (unhide hF).get (k := 1) rfl d1
      have HB := hide hB
      clear hB
      simp only [fillA, Act.put, List.setIfInBounds_toArray, List.set_cons_zero, List.set_cons_succ] at hNx ⊢
      simp only [e15, e16] at hNx ⊢
      clear e15 e16
      rw [if_pos (by rfl)]
      have HC := hide (unhide HBe W)
      go_simp
      refine (unhide HC).mono ?_
      rintro e W' ⟨rfl, hb⟩
      replace HB := hide ((unhide HB).step hb)
      clear hb HC
      go_wp2_with fail
      first | refine hNx _ _ ?_ | skip
      exact ⟨(unhide hF).step rfl rfl, keepG (unhide f5) (by decide) (by decide), keepG (unhide f6) (by decide) (by decide), keepL (unhide f7) (by decide), keepL (unhide f8) (by decide), (unhide HB).congr (fun k => by rcases k with _ | _ | _ | _ | k <;> simp [EBeh])⟩
    refine StepsR.cons 4 rfl ?_ ?_
    · intro L us W hi hdep hR Kx hNx
      have hF := hide hR.1
      have f5 := hide hR.2.1
      have f6 := hide hR.2.2.1
      have f7 := hide hR.2.2.2.1
      have f8 := hide hR.2.2.2.2.1
      have hB := hR.2.2.2.2.2
      clear hR
      clear hdep
      have hE : EBeh ax ay au av ak ad cx cy cu cv ck cd p q w L us 1 = some (w.heap.size + 1, [.int .i64 cx, .int .i64 cy, .int .i64 cu, .int .i64 cv, .int .i64 ck, .int .i64 cd]) := by simp [EBeh]
      have hO := hB.ownV hE
      have c0 := hO.cell (i := 0) rfl
      have c1 := hO.cell (i := 1) rfl
      have c2 := hO.cell (i := 2) rfl
      have c3 := hO.cell (i := 3) rfl
      have c4 := hO.cell (i := 4) rfl
      have c5 := hO.cell (i := 5) rfl
      clear hO
      have HB := hide hB
      clear hB
      have HE := hide hE
      clear hE
      simp only [fillA, Act.put, List.setIfInBounds_toArray, List.set_cons_zero, List.set_cons_succ] at hNx ⊢
      rw [if_pos (by rfl)]
      go_simp
      first | refine hNx _ _ ?_ | skip
      exact ⟨(unhide hF).step rfl rfl, keepG (unhide f5) (by decide) (by decide), keepG (unhide f6) (by decide) (by decide), keepL (unhide f7) (by decide), keepL (unhide f8) (by decide), (unhide HB).congr (fun k => by rcases k with _ | _ | _ | _ | k <;> simp [EBeh])⟩
    refine StepsR.cons 5 rfl ?_ ?_
    · intro L us W hi hdep hR Kx hNx
      have hF := hide hR.1
      have f5 := hide hR.2.1
      have f6 := hide hR.2.2.1
      have f7 := hide hR.2.2.2.1
      have f8 := hide hR.2.2.2.2.1
      have hB := hR.2.2.2.2.2
      clear hR
      have d3 : L 3 = true := hdep 3 (by kernel_rfl)
      clear hdep
      have e18 : us 18 = vShip cx cy cu cv ck cd := (unhide hF).get (k := 3) rfl d3
      have HB := hide hB
      clear hB
      simp only [fillA, Act.put, List.setIfInBounds_toArray, List.set_cons_zero, List.set_cons_succ] at hNx ⊢
      simp only [e18] at hNx ⊢
      clear e18
      rw [if_pos (by rfl)]
      have HC := hide (unhide HWa W)
      go_simp
      refine (unhide HC).mono ?_
      rintro e W' ⟨rfl, hb⟩
      replace HB := hide ((unhide HB).step hb)
      clear hb HC
      go_wp2_with fail
      first | refine hNx _ _ ?_ | skip
      exact ⟨(unhide hF).step rfl rfl, keepG (unhide f5) (by decide) (by decide), keepG (unhide f6) (by decide) (by decide), keepL (unhide f7) (by decide), keepL (unhide f8) (by decide), (unhide HB).congr (fun k => by rcases k with _ | _ | _ | _ | k <;> simp [EBeh])⟩
    refine StepsR.cons 6 rfl ?_ ?_
    · intro L us W hi hdep hR Kx hNx
      have hF := hide hR.1
      have f5 := hide hR.2.1
      have f6 := hide hR.2.2.1
      have f7 := hide hR.2.2.2.1
      have f8 := hide hR.2.2.2.2.1
      have hB := hR.2.2.2.2.2
      clear hR
      clear hdep
      have HB := hide hB
      clear hB
      simp only [fillA, Act.put, List.setIfInBounds_toArray, List.set_cons_zero, List.set_cons_succ] at hNx ⊢
      rw [if_pos (by rfl)]
      have A1 := hide ((unhide HB).made 2 #[.int .i64 0, .int .i64 0] 54)
      go_simp
      first | refine hNx _ _ ?_ | skip
      have nst : L 7 = false := notL (unhide f7) hi
      exact ⟨(unhide hF).stepO rfl, newG, keepG (unhide f6) (by decide) (by decide), keepL (unhide f7) (by decide), keepL (unhide f8) (by decide), (unhide A1).congr (fun k => by rcases k with _ | _ | _ | _ | k <;> simp [EBeh, *])⟩
    refine StepsR.cons 7 rfl ?_ ?_
    · intro L us W hi hdep hR Kx hNx
      have hF := hide hR.1
      have f5 := hide hR.2.1
      have f6 := hide hR.2.2.1
      have f7 := hide hR.2.2.2.1
      have f8 := hide hR.2.2.2.2.1
      have hB := hR.2.2.2.2.2
      clear hR
      clear hdep
      have HB := hide hB
      clear hB
      simp only [fillA, Act.put, List.setIfInBounds_toArray, List.set_cons_zero, List.set_cons_succ] at hNx ⊢
      rw [if_pos (by rfl)]
      have A1 := hide ((unhide HB).made 3 #[.int .i64 0, .int .i64 0] 54)
      go_simp
      first | refine hNx _ _ ?_ | skip
      have nst : L 8 = false := notL (unhide f8) hi
      exact ⟨(unhide hF).stepO rfl, keepG (unhide f5) (by decide) (by decide), newG, keepL (unhide f7) (by decide), keepL (unhide f8) (by decide), (unhide A1).congr (fun k => by rcases k with _ | _ | _ | _ | k <;> simp [EBeh, *])⟩
    refine StepsR.cons 8 rfl ?_ ?_
    · intro L us W hi hdep hR Kx hNx
      have hF := hide hR.1
      have f5 := hide hR.2.1
      have f6 := hide hR.2.2.1
      have f7 := hide hR.2.2.2.1
      have f8 := hide hR.2.2.2.2.1
      have hB := hR.2.2.2.2.2
      clear hR
      have d2 : L 2 = true := hdep 2 (by kernel_rfl)
      have d5 : L 5 = true := hdep 5 (by kernel_rfl)
      clear hdep
      have hE : EBeh ax ay au av ak ad cx cy cu cv ck cd p q w L us 2 = some ((gOf (us 5)), [.int .i64 0, .int .i64 0]) := by simp [EBeh, *]
      have e17 : us 17 = vV p q := (unhide hF).get (k := 2) rfl d2
      have e5 := unhide f5 d5
      have hO := hB.ownV hE
      have c0 := hO.cell (i := 0) rfl
      have c1 := hO.cell (i := 1) rfl
      have z0 := hO.frozen 0
      have z1 := hO.frozen 1
      clear hO
      have HB := hide hB
      clear hB
      have HE := hide hE
      clear hE
      simp only [fillA, Act.put, List.setIfInBounds_toArray, List.set_cons_zero, List.set_cons_succ] at hNx ⊢
      simp only [e17] at hNx ⊢
      rw [e5] at hNx ⊢
      clear e17 e5
      rw [if_pos (by rfl)]
      have A1 := hide (((unhide HB).set (k := 2) (g := (gOf (us 5))) (vs := [.int .i64 0, .int .i64 0]) (unhide HE) 0 (.int .i64 p) (by simp)).set (k := 2) (g := (gOf (us 5))) (vs := [.int .i64 p, .int .i64 0]) (by simp) 1 (.int .i64 q) (by simp))
      go_simp
      first | refine hNx undef _ ?_ | skip
      exact ⟨(unhide hF).stepN rfl, keepGN (unhide f5) (by decide), keepGN (unhide f6) (by decide), newL d5 (by decide), keepL (unhide f8) (by decide), (unhide A1).congr (fun k => by rcases k with _ | _ | _ | _ | k <;> simp [EBeh, *])⟩
    refine StepsR.cons 9 rfl ?_ ?_
    · intro L us W hi hdep hR Kx hNx
      have hF := hide hR.1
      have f5 := hide hR.2.1
      have f6 := hide hR.2.2.1
      have f7 := hide hR.2.2.2.1
      have f8 := hide hR.2.2.2.2.1
      have hB := hR.2.2.2.2.2
      clear hR
      have d4 : L 4 = true := hdep 4 (by kernel_rfl)
      have d6 : L 6 = true := hdep 6 (by kernel_rfl)
      clear hdep
      have hE : EBeh ax ay au av ak ad cx cy cu cv ck cd p q w L us 3 = some ((gOf (us 6)), [.int .i64 0, .int .i64 0]) := by simp [EBeh, *]
      have e19 : us 19 = vV cu cv := (unhide hF).get (k := 4) rfl d4
      have e6 := unhide f6 d6
      have hO := hB.ownV hE
      have c0 := hO.cell (i := 0) rfl
      have c1 := hO.cell (i := 1) rfl
      have z0 := hO.frozen 0
      have z1 := hO.frozen 1
      clear hO
      have HB := hide hB
      clear hB
      have HE := hide hE
      clear hE
      simp only [fillA, Act.put, List.setIfInBounds_toArray, List.set_cons_zero, List.set_cons_succ] at hNx ⊢
      simp only [e19] at hNx ⊢
      rw [e6] at hNx ⊢
      clear e19 e6
      rw [if_pos (by rfl)]
      have A1 := hide (((unhide HB).set (k := 3) (g := (gOf (us 6))) (vs := [.int .i64 0, .int .i64 0]) (unhide HE) 0 (.int .i64 cu) (by simp)).set (k := 3) (g := (gOf (us 6))) (vs := [.int .i64 cu, .int .i64 0]) (by simp) 1 (.int .i64 cv) (by simp))
      go_simp
      first | refine hNx undef _ ?_ | skip
      exact ⟨(unhide hF).stepN rfl, keepGN (unhide f5) (by decide), keepGN (unhide f6) (by decide), keepL (unhide f7) (by decide), newL d6 (by decide), (unhide A1).congr (fun k => by rcases k with _ | _ | _ | _ | k <;> simp [EBeh, *])⟩
    exact StepsR.nil
  · intro L us W hL hR
    have hF := hide hR.1
    have f5 := hide hR.2.1
    have f6 := hide hR.2.2.1
    have f7 := hide hR.2.2.2.1
    have f8 := hide hR.2.2.2.2.1
    have hB := hR.2.2.2.2.2
    clear hR
    have l5 := hL 5 (by decide)
    have l6 := hL 6 (by decide)
    have l7 := hL 7 (by decide)
    have l8 := hL 8 (by decide)
    have hE0 : EBeh ax ay au av ak ad cx cy cu cv ck cd p q w L us 0 = some (w.heap.size, [.int .i64 ax, .int .i64 ay, .int .i64 au, .int .i64 av, .int .i64 ak, .int .i64 ad]) := by simp [EBeh]
    have hO0 := hB.ownV hE0
    have hE1 : EBeh ax ay au av ak ad cx cy cu cv ck cd p q w L us 1 = some (w.heap.size + 1, [.int .i64 cx, .int .i64 cy, .int .i64 cu, .int .i64 cv, .int .i64 ck, .int .i64 cd]) := by simp [EBeh]
    have hO1 := hB.ownV hE1
    have hE2 : EBeh ax ay au av ak ad cx cy cu cv ck cd p q w L us 2 = some ((gOf (us 5)), [.int .i64 p, .int .i64 q]) := by simp [EBeh, *]
    have hO2 := hB.ownV hE2
    have hE3 : EBeh ax ay au av ak ad cx cy cu cv ck cd p q w L us 3 = some ((gOf (us 6)), [.int .i64 cu, .int .i64 cv]) := by simp [EBeh, *]
    have hO3 := hB.ownV hE3
    have hg2 := (hB.own 2 _ _ hE2).1
    have ha2_0 := hB.apart 2 0 _ _ _ _ hE2 hE0 (by decide)
    have ha2_1 := hB.apart 2 1 _ _ _ _ hE2 hE1 (by decide)
    have hg3 := (hB.own 3 _ _ hE3).1
    have ha3_0 := hB.apart 3 0 _ _ _ _ hE3 hE0 (by decide)
    have ha3_1 := hB.apart 3 1 _ _ _ _ hE3 hE1 (by decide)
    have ha3_2 := hB.apart 3 2 _ _ _ _ hE3 hE2 (by decide)
    clear hE0 hE1 hE2 hE3
    have HA : Hid (Bk w W (XBeh ax ay au av ak ad cx cy cu cv ck cd p q w (gOf (us 5)) (gOf (us 6)))) := hide (hB.congr (fun k => by rcases k with _ | _ | _ | _ | k <;> simp [EBeh, XBeh, *]))
    have f0 : us 15 = vShip ax ay au av ak ad := (unhide hF).get (k := 0) rfl (hL 0 (by decide))
    have f1 : us 16 = vShip cx cy cu cv ck cd := (unhide hF).get (k := 1) rfl (hL 1 (by decide))
    have f2 : us 17 = vV p q := (unhide hF).get (k := 2) rfl (hL 2 (by decide))
    have f3 : us 18 = vShip cx cy cu cv ck cd := (unhide hF).get (k := 3) rfl (hL 3 (by decide))
    have f4 : us 19 = vV cu cv := (unhide hF).get (k := 4) rfl (hL 4 (by decide))
    replace f5 := unhide f5 (hL 5 (by decide))
    replace f6 := unhide f6 (hL 6 (by decide))
    have HW := hide hB.below
    clear hB hL l5 l6 l7 l8
    simp only [fillA, Act.put, List.setIfInBounds_toArray, List.set_cons_zero, List.set_cons_succ]
    simp only [f0, f1, f2, f3, f4]
    rw [f5]
    rw [f6]
    clear hF f0 f1 f2 f3 f4 f5 f6 f7 f8
    generalize gOf (us 5) = g5 at *
    generalize gOf (us 6) = g6 at *
    clear us L
    have HO2 := hide hO2
    have HO3 := hide hO3
    clear hO0 hO1 hO2 hO3 HBe HWa
    have HDo := hide fun W => implDot_any p q cu cv W n1 n2 (Nat.le_trans n3 (by decide)) (Nat.le_trans n4 (by decide))
    have HBs := hide fun W => implBeside5_any p q cu cv W n1 n2 n3 n4
    obtain ⟨d, ed⟩ : ∃ d, d = p * cu + q * cv := ⟨_, rfl⟩
    rw [← ed] at HDo
    have HV : Hid (bhB p q cu cv = (decide (d < 0) && bes 5 29 p q cu cv)) := by show _ = _; rw [ed]; rfl
    clear ed n1 n2 n3 n4
    have hEq := eql_vec p q 0 0
    have hGd := fun x y w => run_eqGuard_agg (P := Try.prog) w .eql 54 x y #[.int .i64 p, .int .i64 q] #[.int .i64 0, .int .i64 0] Try.eqgVec
    have r0 := (unhide HO2).cell (i := 0) rfl
    have r1 := (unhide HO2).cell (i := 1) rfl
    have s0 := (unhide HO3).cell (i := 0) rfl
    have s1 := (unhide HO3).cell (i := 1) rfl
    cases hz : (p == 0 && q == 0)
    case true =>
      have HN := hide (bhB_zero cu cv hz)
      clear HV
      go_wp2
      go_ret
      exact ⟨ret_bool (by rw [unhide HT, unhide HN]), unhide HW⟩
    go_wp2_with fail
    refine (unhide HDo _).mono ?_
    rintro e w3 ⟨rfl, hb⟩
    replace HO2 := hide ((unhide HO2).step hb)
    replace HO3 := hide ((unhide HO3).step hb)
    replace HW := hide (Below.step (unhide HW) hb)
    clear hb HDo r0 r1 s0 s1 hEq hGd hz
    have r0 := (unhide HO2).cell (i := 0) rfl
    have r1 := (unhide HO2).cell (i := 1) rfl
    have s0 := (unhide HO3).cell (i := 0) rfl
    have s1 := (unhide HO3).cell (i := 1) rfl
    cases hd : decide (d < 0)
    · rw [hd] at HV
      go_wp2
      go_ret
      exact ⟨ret_bool (by rw [unhide HT, unhide HV]; rfl), unhide HW⟩
    rw [hd] at HV
    obtain ⟨b, eb⟩ : ∃ b, b = bes 5 29 p q cu cv := ⟨_, rfl⟩
    rw [← eb] at HBs HV
    clear eb
    go_wp2_with fail
    refine (unhide HBs _).mono ?_
    rintro e w4 ⟨rfl, hb⟩
    replace HW := hide (Below.step (unhide HW) hb)
    clear hb HBs r0 r1 s0 s1
    go_wp2
    go_ret
    exact ⟨ret_bool (by rw [unhide HT, unhide HV]; simp), unhide HW⟩

def EAhd (ax ay au av ak ad cx cy cu cv ck cd p q : Int) (w : World) (L : Nat → Bool) (us : Nat → Value) : Nat → Option (Nat × List Value)
  | 0 => some (w.heap.size, [.int .i64 ax, .int .i64 ay, .int .i64 au, .int .i64 av, .int .i64 ak, .int .i64 ad])
  | 1 => some (w.heap.size + 1, [.int .i64 cx, .int .i64 cy, .int .i64 cu, .int .i64 cv, .int .i64 ck, .int .i64 cd])
  | 2 => if L 5 then some ((gOf (us 5)), (if L 7 then [.int .i64 p, .int .i64 q] else [.int .i64 0, .int .i64 0])) else none
  | 3 => if L 6 then some ((gOf (us 6)), (if L 8 then [.int .i64 au, .int .i64 av] else [.int .i64 0, .int .i64 0])) else none
  | _ => none
def FAhd (ax ay au av ak ad cx cy cu cv ck cd p q : Int) : FL := [(0, 7, vShip cx cy cu cv ck cd), (1, 8, vShip ax ay au av ak ad), (2, 9, vV p q), (3, 10, vShip ax ay au av ak ad), (4, 11, vV au av)]
def RAhd (ax ay au av ak ad cx cy cu cv ck cd p q : Int) (w : World) (L : Nat → Bool) (us : Nat → Value) (W : World) : Prop :=
  Facts L us (FAhd ax ay au av ak ad cx cy cu cv ck cd p q) ∧ (L 5 = true → us 5 = .pointer (some ⟨gOf (us 5), 0, none⟩)) ∧ (L 6 = true → us 6 = .pointer (some ⟨gOf (us 6), 0, none⟩)) ∧ (L 7 = true → L 5 = true) ∧ (L 8 = true → L 6 = true) ∧ Bk w W (EAhd ax ay au av ak ad cx cy cu cv ck cd p q w L us)
def XAhd (ax ay au av ak ad cx cy cu cv ck cd p q : Int) (w : World) (g5 g6 : Nat) : Nat → Option (Nat × List Value)
  | 0 => some (w.heap.size, [.int .i64 ax, .int .i64 ay, .int .i64 au, .int .i64 av, .int .i64 ak, .int .i64 ad])
  | 1 => some (w.heap.size + 1, [.int .i64 cx, .int .i64 cy, .int .i64 cu, .int .i64 cv, .int .i64 ck, .int .i64 cd])
  | 2 => some (g5, [.int .i64 p, .int .i64 q])
  | 3 => some (g6, [.int .i64 au, .int .i64 av])
  | _ => none
set_option maxRecDepth 10000 in
set_option maxHeartbeats 3200000 in
theorem implAhead_any (ax ay au av ak ad cx cy cu cv ck cd : Int) (w : World) (h1 : shipB ax ay au av ak ad = true) (h2 : shipB cx cy cu cv ck cd = true) :
    Calls Try.prog 43 #[vShip ax ay au av ak ad, vShip cx cy cu cv ck cd] w fun e w' => e = .returned (.bool (ahdB ax ay au av ak ad cx cy cu cv ck cd)) ∧ Below w.heap.size w w' := by
  obtain ⟨ba0, ba1, ba2, ba3, ba4, ba5, ba6, ba7⟩ := shipB_bd h1
  obtain ⟨bc0, bc1, bc2, bc3, bc4, bc5, bc6, bc7⟩ := shipB_bd h2
  have HBe := hide fun W => implBearing_any cx cy cu cv ck cd ax ay au av ak ad W bc0 bc1 bc2 bc3 ba0 ba1 ba2 ba3
  have HWa := hide fun W => implWay_any ax ay au av ak ad W
  obtain ⟨p, ep⟩ : ∃ z, z = cx - ax := ⟨_, rfl⟩
  obtain ⟨q, eq⟩ : ∃ z, z = cy - ay := ⟨_, rfl⟩
  have n1 : p.natAbs ≤ 200000 := by omega
  have n2 : q.natAbs ≤ 200000 := by omega
  have n3 : au.natAbs ≤ 1000 := by omega
  have n4 : av.natAbs ≤ 1000 := by omega
  have HT : Hid (ahdB ax ay au av ak ad cx cy cu cv ck cd = ahB p q au av) := by show _ = _; unfold ahdB; rw [ep, eq]
  rw [← ep, ← eq] at HBe
  clear ep eq h1 h2 ba0 ba1 ba2 ba3 ba4 ba5 ba6 ba7 bc0 bc1 bc2 bc3 bc4 bc5 bc6 bc7
  have HB := hide (bk_two w #[.int .i64 ax, .int .i64 ay, .int .i64 au, .int .i64 av, .int .i64 ak, .int .i64 ad] #[.int .i64 cx, .int .i64 cy, .int .i64 cu, .int .i64 cv, .int .i64 ck, .int .i64 cd] 25 25)
  unfold vShip
  go_enter Try.func43, Try.ntmps43
  go_wp2_with fail
  have HB0 : Hid (∀ us, Bk w _ (EAhd ax ay au av ak ad cx cy cu cv ck cd p q w (fun _ => false) us)) := hide (fun us => ((unhide HB)).congr (fun k => by rcases k with _ | _ | _ | _ | k <;> simp [EAhd, E2]))
  refine wp_region_slots [7, 8, 9, 10, 11, 5, 6] (RAhd ax ay au av ak ad cx cy cu cv ck cd p q w) (by kernel_rfl) (by kernel_rfl) (by decide) (by kernel_rfl) ?_ ?_ ?_
  · intro us
    exact ⟨facts_start us _, fun h => (by cases h), fun h => (by cases h), fun h => (by cases h), fun h => (by cases h), (unhide HB0 us).drew⟩
  · clear HB0
    refine StepsR.cons 1 rfl ?_ ?_
    · intro L us W hi hdep hR Kx hNx
      have hF := hide hR.1
      have f5 := hide hR.2.1
      have f6 := hide hR.2.2.1
      have f7 := hide hR.2.2.2.1
      have f8 := hide hR.2.2.2.2.1
      have hB := hR.2.2.2.2.2
      clear hR
      clear hdep
      have hE : EAhd ax ay au av ak ad cx cy cu cv ck cd p q w L us 1 = some (w.heap.size + 1, [.int .i64 cx, .int .i64 cy, .int .i64 cu, .int .i64 cv, .int .i64 ck, .int .i64 cd]) := by simp [EAhd]
      have hO := hB.ownV hE
      have c0 := hO.cell (i := 0) rfl
      have c1 := hO.cell (i := 1) rfl
      have c2 := hO.cell (i := 2) rfl
      have c3 := hO.cell (i := 3) rfl
      have c4 := hO.cell (i := 4) rfl
      have c5 := hO.cell (i := 5) rfl
      clear hO
      have HB := hide hB
      clear hB
      have HE := hide hE
      clear hE
      simp only [fillA, Act.put, List.setIfInBounds_toArray, List.set_cons_zero, List.set_cons_succ] at hNx ⊢
      rw [if_pos (by rfl)]
      go_simp
      first | refine hNx _ _ ?_ | skip
      exact ⟨(unhide hF).step rfl rfl, keepG (unhide f5) (by decide) (by decide), keepG (unhide f6) (by decide) (by decide), keepL (unhide f7) (by decide), keepL (unhide f8) (by decide), (unhide HB).congr (fun k => by rcases k with _ | _ | _ | _ | k <;> simp [EAhd])⟩
    refine StepsR.cons 2 rfl ?_ ?_
    · intro L us W hi hdep hR Kx hNx
      have hF := hide hR.1
      have f5 := hide hR.2.1
      have f6 := hide hR.2.2.1
      have f7 := hide hR.2.2.2.1
      have f8 := hide hR.2.2.2.2.1
      have hB := hR.2.2.2.2.2
      clear hR
      clear hdep
      have hE : EAhd ax ay au av ak ad cx cy cu cv ck cd p q w L us 0 = some (w.heap.size, [.int .i64 ax, .int .i64 ay, .int .i64 au, .int .i64 av, .int .i64 ak, .int .i64 ad]) := by simp [EAhd]
      have hO := hB.ownV hE
      have c0 := hO.cell (i := 0) rfl
      have c1 := hO.cell (i := 1) rfl
      have c2 := hO.cell (i := 2) rfl
      have c3 := hO.cell (i := 3) rfl
      have c4 := hO.cell (i := 4) rfl
      have c5 := hO.cell (i := 5) rfl
      clear hO
      have HB := hide hB
      clear hB
      have HE := hide hE
      clear hE
      simp only [fillA, Act.put, List.setIfInBounds_toArray, List.set_cons_zero, List.set_cons_succ] at hNx ⊢
      rw [if_pos (by rfl)]
      go_simp
      first | refine hNx _ _ ?_ | skip
      exact ⟨(unhide hF).step rfl rfl, keepG (unhide f5) (by decide) (by decide), keepG (unhide f6) (by decide) (by decide), keepL (unhide f7) (by decide), keepL (unhide f8) (by decide), (unhide HB).congr (fun k => by rcases k with _ | _ | _ | _ | k <;> simp [EAhd])⟩
    refine StepsR.cons 3 rfl ?_ ?_
    · intro L us W hi hdep hR Kx hNx
      have hF := hide hR.1
      have f5 := hide hR.2.1
      have f6 := hide hR.2.2.1
      have f7 := hide hR.2.2.2.1
      have f8 := hide hR.2.2.2.2.1
      have hB := hR.2.2.2.2.2
      clear hR
      have d0 : L 0 = true := hdep 0 (by kernel_rfl)
      have d1 : L 1 = true := hdep 1 (by kernel_rfl)
      clear hdep
      have e7 : us 7 = vShip cx cy cu cv ck cd := (unhide hF).get (k := 0) rfl d0
      have e8 : us 8 = vShip ax ay au av ak ad := (unhide hF).get (k := 1) rfl d1
      have HB := hide hB
      clear hB
      simp only [fillA, Act.put, List.setIfInBounds_toArray, List.set_cons_zero, List.set_cons_succ] at hNx ⊢
      simp only [e7, e8] at hNx ⊢
      clear e7 e8
      rw [if_pos (by rfl)]
      have HC := hide (unhide HBe W)
      go_simp
      refine (unhide HC).mono ?_
      rintro e W' ⟨rfl, hb⟩
      replace HB := hide ((unhide HB).step hb)
      clear hb HC
      go_wp2_with fail
      first | refine hNx _ _ ?_ | skip
      exact ⟨(unhide hF).step rfl rfl, keepG (unhide f5) (by decide) (by decide), keepG (unhide f6) (by decide) (by decide), keepL (unhide f7) (by decide), keepL (unhide f8) (by decide), (unhide HB).congr (fun k => by rcases k with _ | _ | _ | _ | k <;> simp [EAhd])⟩
    refine StepsR.cons 4 rfl ?_ ?_
    · intro L us W hi hdep hR Kx hNx
      have hF := hide hR.1
      have f5 := hide hR.2.1
      have f6 := hide hR.2.2.1
      have f7 := hide hR.2.2.2.1
      have f8 := hide hR.2.2.2.2.1
      have hB := hR.2.2.2.2.2
      clear hR
      clear hdep
      have hE : EAhd ax ay au av ak ad cx cy cu cv ck cd p q w L us 0 = some (w.heap.size, [.int .i64 ax, .int .i64 ay, .int .i64 au, .int .i64 av, .int .i64 ak, .int .i64 ad]) := by simp [EAhd]
      have hO := hB.ownV hE
      have c0 := hO.cell (i := 0) rfl
      have c1 := hO.cell (i := 1) rfl
      have c2 := hO.cell (i := 2) rfl
      have c3 := hO.cell (i := 3) rfl
      have c4 := hO.cell (i := 4) rfl
      have c5 := hO.cell (i := 5) rfl
      clear hO
      have HB := hide hB
      clear hB
      have HE := hide hE
      clear hE
      simp only [fillA, Act.put, List.setIfInBounds_toArray, List.set_cons_zero, List.set_cons_succ] at hNx ⊢
      rw [if_pos (by rfl)]
      go_simp
      first | refine hNx _ _ ?_ | skip
      exact ⟨(unhide hF).step rfl rfl, keepG (unhide f5) (by decide) (by decide), keepG (unhide f6) (by decide) (by decide), keepL (unhide f7) (by decide), keepL (unhide f8) (by decide), (unhide HB).congr (fun k => by rcases k with _ | _ | _ | _ | k <;> simp [EAhd])⟩
    refine StepsR.cons 5 rfl ?_ ?_
    · intro L us W hi hdep hR Kx hNx
      have hF := hide hR.1
      have f5 := hide hR.2.1
      have f6 := hide hR.2.2.1
      have f7 := hide hR.2.2.2.1
      have f8 := hide hR.2.2.2.2.1
      have hB := hR.2.2.2.2.2
      clear hR
      have d3 : L 3 = true := hdep 3 (by kernel_rfl)
      clear hdep
      have e10 : us 10 = vShip ax ay au av ak ad := (unhide hF).get (k := 3) rfl d3
      have HB := hide hB
      clear hB
      simp only [fillA, Act.put, List.setIfInBounds_toArray, List.set_cons_zero, List.set_cons_succ] at hNx ⊢
      simp only [e10] at hNx ⊢
      clear e10
      rw [if_pos (by rfl)]
      have HC := hide (unhide HWa W)
      go_simp
      refine (unhide HC).mono ?_
      rintro e W' ⟨rfl, hb⟩
      replace HB := hide ((unhide HB).step hb)
      clear hb HC
      go_wp2_with fail
      first | refine hNx _ _ ?_ | skip
      exact ⟨(unhide hF).step rfl rfl, keepG (unhide f5) (by decide) (by decide), keepG (unhide f6) (by decide) (by decide), keepL (unhide f7) (by decide), keepL (unhide f8) (by decide), (unhide HB).congr (fun k => by rcases k with _ | _ | _ | _ | k <;> simp [EAhd])⟩
    refine StepsR.cons 6 rfl ?_ ?_
    · intro L us W hi hdep hR Kx hNx
      have hF := hide hR.1
      have f5 := hide hR.2.1
      have f6 := hide hR.2.2.1
      have f7 := hide hR.2.2.2.1
      have f8 := hide hR.2.2.2.2.1
      have hB := hR.2.2.2.2.2
      clear hR
      clear hdep
      have HB := hide hB
      clear hB
      simp only [fillA, Act.put, List.setIfInBounds_toArray, List.set_cons_zero, List.set_cons_succ] at hNx ⊢
      rw [if_pos (by rfl)]
      have A1 := hide ((unhide HB).made 2 #[.int .i64 0, .int .i64 0] 54)
      go_simp
      first | refine hNx _ _ ?_ | skip
      have nst : L 7 = false := notL (unhide f7) hi
      exact ⟨(unhide hF).stepO rfl, newG, keepG (unhide f6) (by decide) (by decide), keepL (unhide f7) (by decide), keepL (unhide f8) (by decide), (unhide A1).congr (fun k => by rcases k with _ | _ | _ | _ | k <;> simp [EAhd, *])⟩
    refine StepsR.cons 7 rfl ?_ ?_
    · intro L us W hi hdep hR Kx hNx
      have hF := hide hR.1
      have f5 := hide hR.2.1
      have f6 := hide hR.2.2.1
      have f7 := hide hR.2.2.2.1
      have f8 := hide hR.2.2.2.2.1
      have hB := hR.2.2.2.2.2
      clear hR
      clear hdep
      have HB := hide hB
      clear hB
      simp only [fillA, Act.put, List.setIfInBounds_toArray, List.set_cons_zero, List.set_cons_succ] at hNx ⊢
      rw [if_pos (by rfl)]
      have A1 := hide ((unhide HB).made 3 #[.int .i64 0, .int .i64 0] 54)
      go_simp
      first | refine hNx _ _ ?_ | skip
      have nst : L 8 = false := notL (unhide f8) hi
      exact ⟨(unhide hF).stepO rfl, keepG (unhide f5) (by decide) (by decide), newG, keepL (unhide f7) (by decide), keepL (unhide f8) (by decide), (unhide A1).congr (fun k => by rcases k with _ | _ | _ | _ | k <;> simp [EAhd, *])⟩
    refine StepsR.cons 8 rfl ?_ ?_
    · intro L us W hi hdep hR Kx hNx
      have hF := hide hR.1
      have f5 := hide hR.2.1
      have f6 := hide hR.2.2.1
      have f7 := hide hR.2.2.2.1
      have f8 := hide hR.2.2.2.2.1
      have hB := hR.2.2.2.2.2
      clear hR
      have d2 : L 2 = true := hdep 2 (by kernel_rfl)
      have d5 : L 5 = true := hdep 5 (by kernel_rfl)
      clear hdep
      have hE : EAhd ax ay au av ak ad cx cy cu cv ck cd p q w L us 2 = some ((gOf (us 5)), [.int .i64 0, .int .i64 0]) := by simp [EAhd, *]
      have e9 : us 9 = vV p q := (unhide hF).get (k := 2) rfl d2
      have e5 := unhide f5 d5
      have hO := hB.ownV hE
      have c0 := hO.cell (i := 0) rfl
      have c1 := hO.cell (i := 1) rfl
      have z0 := hO.frozen 0
      have z1 := hO.frozen 1
      clear hO
      have HB := hide hB
      clear hB
      have HE := hide hE
      clear hE
      simp only [fillA, Act.put, List.setIfInBounds_toArray, List.set_cons_zero, List.set_cons_succ] at hNx ⊢
      simp only [e9] at hNx ⊢
      rw [e5] at hNx ⊢
      clear e9 e5
      rw [if_pos (by rfl)]
      have A1 := hide (((unhide HB).set (k := 2) (g := (gOf (us 5))) (vs := [.int .i64 0, .int .i64 0]) (unhide HE) 0 (.int .i64 p) (by simp)).set (k := 2) (g := (gOf (us 5))) (vs := [.int .i64 p, .int .i64 0]) (by simp) 1 (.int .i64 q) (by simp))
      go_simp
      first | refine hNx undef _ ?_ | skip
      exact ⟨(unhide hF).stepN rfl, keepGN (unhide f5) (by decide), keepGN (unhide f6) (by decide), newL d5 (by decide), keepL (unhide f8) (by decide), (unhide A1).congr (fun k => by rcases k with _ | _ | _ | _ | k <;> simp [EAhd, *])⟩
    refine StepsR.cons 9 rfl ?_ ?_
    · intro L us W hi hdep hR Kx hNx
      have hF := hide hR.1
      have f5 := hide hR.2.1
      have f6 := hide hR.2.2.1
      have f7 := hide hR.2.2.2.1
      have f8 := hide hR.2.2.2.2.1
      have hB := hR.2.2.2.2.2
      clear hR
      have d4 : L 4 = true := hdep 4 (by kernel_rfl)
      have d6 : L 6 = true := hdep 6 (by kernel_rfl)
      clear hdep
      have hE : EAhd ax ay au av ak ad cx cy cu cv ck cd p q w L us 3 = some ((gOf (us 6)), [.int .i64 0, .int .i64 0]) := by simp [EAhd, *]
      have e11 : us 11 = vV au av := (unhide hF).get (k := 4) rfl d4
      have e6 := unhide f6 d6
      have hO := hB.ownV hE
      have c0 := hO.cell (i := 0) rfl
      have c1 := hO.cell (i := 1) rfl
      have z0 := hO.frozen 0
      have z1 := hO.frozen 1
      clear hO
      have HB := hide hB
      clear hB
      have HE := hide hE
      clear hE
      simp only [fillA, Act.put, List.setIfInBounds_toArray, List.set_cons_zero, List.set_cons_succ] at hNx ⊢
      simp only [e11] at hNx ⊢
      rw [e6] at hNx ⊢
      clear e11 e6
      rw [if_pos (by rfl)]
      have A1 := hide (((unhide HB).set (k := 3) (g := (gOf (us 6))) (vs := [.int .i64 0, .int .i64 0]) (unhide HE) 0 (.int .i64 au) (by simp)).set (k := 3) (g := (gOf (us 6))) (vs := [.int .i64 au, .int .i64 0]) (by simp) 1 (.int .i64 av) (by simp))
      go_simp
      first | refine hNx undef _ ?_ | skip
      exact ⟨(unhide hF).stepN rfl, keepGN (unhide f5) (by decide), keepGN (unhide f6) (by decide), keepL (unhide f7) (by decide), newL d6 (by decide), (unhide A1).congr (fun k => by rcases k with _ | _ | _ | _ | k <;> simp [EAhd, *])⟩
    exact StepsR.nil
  · intro L us W hL hR
    have hF := hide hR.1
    have f5 := hide hR.2.1
    have f6 := hide hR.2.2.1
    have f7 := hide hR.2.2.2.1
    have f8 := hide hR.2.2.2.2.1
    have hB := hR.2.2.2.2.2
    clear hR
    have l5 := hL 5 (by decide)
    have l6 := hL 6 (by decide)
    have l7 := hL 7 (by decide)
    have l8 := hL 8 (by decide)
    have hE0 : EAhd ax ay au av ak ad cx cy cu cv ck cd p q w L us 0 = some (w.heap.size, [.int .i64 ax, .int .i64 ay, .int .i64 au, .int .i64 av, .int .i64 ak, .int .i64 ad]) := by simp [EAhd]
    have hO0 := hB.ownV hE0
    have hE1 : EAhd ax ay au av ak ad cx cy cu cv ck cd p q w L us 1 = some (w.heap.size + 1, [.int .i64 cx, .int .i64 cy, .int .i64 cu, .int .i64 cv, .int .i64 ck, .int .i64 cd]) := by simp [EAhd]
    have hO1 := hB.ownV hE1
    have hE2 : EAhd ax ay au av ak ad cx cy cu cv ck cd p q w L us 2 = some ((gOf (us 5)), [.int .i64 p, .int .i64 q]) := by simp [EAhd, *]
    have hO2 := hB.ownV hE2
    have hE3 : EAhd ax ay au av ak ad cx cy cu cv ck cd p q w L us 3 = some ((gOf (us 6)), [.int .i64 au, .int .i64 av]) := by simp [EAhd, *]
    have hO3 := hB.ownV hE3
    have hg2 := (hB.own 2 _ _ hE2).1
    have ha2_0 := hB.apart 2 0 _ _ _ _ hE2 hE0 (by decide)
    have ha2_1 := hB.apart 2 1 _ _ _ _ hE2 hE1 (by decide)
    have hg3 := (hB.own 3 _ _ hE3).1
    have ha3_0 := hB.apart 3 0 _ _ _ _ hE3 hE0 (by decide)
    have ha3_1 := hB.apart 3 1 _ _ _ _ hE3 hE1 (by decide)
    have ha3_2 := hB.apart 3 2 _ _ _ _ hE3 hE2 (by decide)
    clear hE0 hE1 hE2 hE3
    have HA : Hid (Bk w W (XAhd ax ay au av ak ad cx cy cu cv ck cd p q w (gOf (us 5)) (gOf (us 6)))) := hide (hB.congr (fun k => by rcases k with _ | _ | _ | _ | k <;> simp [EAhd, XAhd, *]))
    have f0 : us 7 = vShip cx cy cu cv ck cd := (unhide hF).get (k := 0) rfl (hL 0 (by decide))
    have f1 : us 8 = vShip ax ay au av ak ad := (unhide hF).get (k := 1) rfl (hL 1 (by decide))
    have f2 : us 9 = vV p q := (unhide hF).get (k := 2) rfl (hL 2 (by decide))
    have f3 : us 10 = vShip ax ay au av ak ad := (unhide hF).get (k := 3) rfl (hL 3 (by decide))
    have f4 : us 11 = vV au av := (unhide hF).get (k := 4) rfl (hL 4 (by decide))
    replace f5 := unhide f5 (hL 5 (by decide))
    replace f6 := unhide f6 (hL 6 (by decide))
    have HW := hide hB.below
    clear hB hL l5 l6 l7 l8
    simp only [fillA, Act.put, List.setIfInBounds_toArray, List.set_cons_zero, List.set_cons_succ]
    simp only [f0, f1, f2, f3, f4]
    rw [f5]
    rw [f6]
    clear hF f0 f1 f2 f3 f4 f5 f6 f7 f8
    generalize gOf (us 5) = g5 at *
    generalize gOf (us 6) = g6 at *
    clear us L
    have HO2 := hide hO2
    have HO3 := hide hO3
    clear hO0 hO1 hO2 hO3 HBe HWa
    have HDo := hide fun W => implDot_any p q au av W n1 n2 (Nat.le_trans n3 (by decide)) (Nat.le_trans n4 (by decide))
    have HBs := hide fun W => implBeside100_any p q au av W n1 n2 n3 n4
    obtain ⟨d, ed⟩ : ∃ d, d = p * au + q * av := ⟨_, rfl⟩
    rw [← ed] at HDo
    have HV : Hid (ahB p q au av = (decide (0 < d) && bes 100 1 p q au av)) := by show _ = _; rw [ed]; rfl
    clear ed n1 n2 n3 n4
    have hEq := eql_vec p q 0 0
    have hGd := fun x y w => run_eqGuard_agg (P := Try.prog) w .eql 54 x y #[.int .i64 p, .int .i64 q] #[.int .i64 0, .int .i64 0] Try.eqgVec
    have r0 := (unhide HO2).cell (i := 0) rfl
    have r1 := (unhide HO2).cell (i := 1) rfl
    have s0 := (unhide HO3).cell (i := 0) rfl
    have s1 := (unhide HO3).cell (i := 1) rfl
    cases hz : (p == 0 && q == 0)
    case true =>
      have HN := hide (ahB_zero au av hz)
      clear HV
      go_wp2
      go_ret
      exact ⟨ret_bool (by rw [unhide HT, unhide HN]), unhide HW⟩
    go_wp2_with fail
    refine (unhide HDo _).mono ?_
    rintro e w3 ⟨rfl, hb⟩
    replace HO2 := hide ((unhide HO2).step hb)
    replace HO3 := hide ((unhide HO3).step hb)
    replace HW := hide (Below.step (unhide HW) hb)
    clear hb HDo r0 r1 s0 s1 hEq hGd hz
    have r0 := (unhide HO2).cell (i := 0) rfl
    have r1 := (unhide HO2).cell (i := 1) rfl
    have s0 := (unhide HO3).cell (i := 0) rfl
    have s1 := (unhide HO3).cell (i := 1) rfl
    cases hd : decide (0 < d)
    · rw [hd] at HV
      go_wp2
      go_ret
      exact ⟨ret_bool (by rw [unhide HT, unhide HV]; rfl), unhide HW⟩
    rw [hd] at HV
    obtain ⟨b, eb⟩ : ∃ b, b = bes 100 1 p q au av := ⟨_, rfl⟩
    rw [← eb] at HBs HV
    clear eb
    go_wp2_with fail
    refine (unhide HBs _).mono ?_
    rintro e w4 ⟨rfl, hb⟩
    replace HW := hide (Below.step (unhide HW) hb)
    clear hb HBs r0 r1 s0 s1
    go_wp2
    go_ret
    exact ⟨ret_bool (by rw [unhide HT, unhide HV]; simp), unhide HW⟩

def ERig (ax ay au av ak ad cx cy cu cv ck cd _p _q _k : Int) (w : World) (_L : Nat → Bool) (_us : Nat → Value) : Nat → Option (Nat × List Value)
  | 0 => some (w.heap.size, [.int .i64 ax, .int .i64 ay, .int .i64 au, .int .i64 av, .int .i64 ak, .int .i64 ad])
  | 1 => some (w.heap.size + 1, [.int .i64 cx, .int .i64 cy, .int .i64 cu, .int .i64 cv, .int .i64 ck, .int .i64 cd])
  | _ => none
def FRig (ax ay au av ak ad cx cy cu cv ck cd p q k : Int) : FL := [(0, 5, vShip cx cy cu cv ck cd), (1, 6, vV cu cv), (2, 7, vShip ax ay au av ak ad), (3, 8, vShip cx cy cu cv ck cd), (4, 9, vV p q), (5, 10, .int .i64 k), (6, 11, .bool (decide (k < 0))), (7, 4, .bool (decide (k < 0)))]
def RRig (ax ay au av ak ad cx cy cu cv ck cd p q k : Int) (w : World) (L : Nat → Bool) (us : Nat → Value) (W : World) : Prop :=
  Facts L us (FRig ax ay au av ak ad cx cy cu cv ck cd p q k) ∧ Bk w W (ERig ax ay au av ak ad cx cy cu cv ck cd p q k w L us)
def XRig (ax ay au av ak ad cx cy cu cv ck cd _p _q _k : Int) (w : World) : Nat → Option (Nat × List Value)
  | 0 => some (w.heap.size, [.int .i64 ax, .int .i64 ay, .int .i64 au, .int .i64 av, .int .i64 ak, .int .i64 ad])
  | 1 => some (w.heap.size + 1, [.int .i64 cx, .int .i64 cy, .int .i64 cu, .int .i64 cv, .int .i64 ck, .int .i64 cd])
  | _ => none
set_option maxRecDepth 10000 in
set_option maxHeartbeats 3200000 in
theorem implRight_any (ax ay au av ak ad cx cy cu cv ck cd : Int) (w : World) (h1 : shipB ax ay au av ak ad = true) (h2 : shipB cx cy cu cv ck cd = true) :
    Calls Try.prog 38 #[vShip ax ay au av ak ad, vShip cx cy cu cv ck cd] w fun e w' => e = .returned (.bool (rgtB cx cy cu cv ck cd ax ay au av ak ad)) ∧ Below w.heap.size w w' := by
  obtain ⟨ba0, ba1, ba2, ba3, ba4, ba5, ba6, ba7⟩ := shipB_bd h1
  obtain ⟨bc0, bc1, bc2, bc3, bc4, bc5, bc6, bc7⟩ := shipB_bd h2
  have HBe := hide fun W => implBearing_any ax ay au av ak ad cx cy cu cv ck cd W ba0 ba1 ba2 ba3 bc0 bc1 bc2 bc3
  have HWa := hide fun W => implWay_any cx cy cu cv ck cd W
  obtain ⟨p, ep⟩ : ∃ z, z = ax - cx := ⟨_, rfl⟩
  obtain ⟨q, eq⟩ : ∃ z, z = ay - cy := ⟨_, rfl⟩
  have n1 : p.natAbs ≤ 200000 := by omega
  have n2 : q.natAbs ≤ 200000 := by omega
  have n3 : cu.natAbs ≤ 1000 := by omega
  have n4 : cv.natAbs ≤ 1000 := by omega
  have HCr := hide fun W => implCross_any cu cv p q W (Nat.le_trans n3 (by decide)) (Nat.le_trans n4 (by decide)) n1 n2
  obtain ⟨k, ek⟩ : ∃ k, k = cu * q - cv * p := ⟨_, rfl⟩
  rw [← ek] at HCr
  have HT : Hid (rgtB cx cy cu cv ck cd ax ay au av ak ad = decide (k < 0)) := by show _ = _; unfold rgtB; rw [ek, ep, eq]
  rw [← ep, ← eq] at HBe
  clear ep eq ek n1 n2 n3 n4 h1 h2 ba0 ba1 ba2 ba3 ba4 ba5 ba6 ba7 bc0 bc1 bc2 bc3 bc4 bc5 bc6 bc7
  have HB := hide (bk_two w #[.int .i64 ax, .int .i64 ay, .int .i64 au, .int .i64 av, .int .i64 ak, .int .i64 ad] #[.int .i64 cx, .int .i64 cy, .int .i64 cu, .int .i64 cv, .int .i64 ck, .int .i64 cd] 25 25)
  unfold vShip
  go_enter Try.func38, Try.ntmps38
  go_wp2_with fail
  have HB0 : Hid (∀ us, Bk w _ (ERig ax ay au av ak ad cx cy cu cv ck cd p q k w (fun _ => false) us)) := hide (fun us => ((unhide HB)).congr (fun k => by rcases k with _ | _ | k <;> simp [ERig, E2]))
  refine wp_region_slots [5, 6, 7, 8, 9, 10, 11, 4] (RRig ax ay au av ak ad cx cy cu cv ck cd p q k w) (by kernel_rfl) (by kernel_rfl) (by decide) (by kernel_rfl) ?_ ?_ ?_
  · intro us
    exact ⟨facts_start us _, (unhide HB0 us).drew⟩
  · clear HB0
    refine StepsR.cons 1 rfl ?_ ?_
    · intro L us W hi hdep hR Kx hNx
      have hF := hide hR.1
      have hB := hR.2
      clear hR
      clear hdep
      have hE : ERig ax ay au av ak ad cx cy cu cv ck cd p q k w L us 1 = some (w.heap.size + 1, [.int .i64 cx, .int .i64 cy, .int .i64 cu, .int .i64 cv, .int .i64 ck, .int .i64 cd]) := by simp [ERig]
      have hO := hB.ownV hE
      have c0 := hO.cell (i := 0) rfl
      have c1 := hO.cell (i := 1) rfl
      have c2 := hO.cell (i := 2) rfl
      have c3 := hO.cell (i := 3) rfl
      have c4 := hO.cell (i := 4) rfl
      have c5 := hO.cell (i := 5) rfl
      clear hO
      have HB := hide hB
      clear hB
      have HE := hide hE
      clear hE
      simp only [fillA, Act.put, List.setIfInBounds_toArray, List.set_cons_zero, List.set_cons_succ] at hNx ⊢
      rw [if_pos (by rfl)]
      go_simp
      first | refine hNx _ _ ?_ | skip
      exact ⟨(unhide hF).step rfl rfl, (unhide HB).congr (fun k => by rcases k with _ | _ | k <;> simp [ERig])⟩
    refine StepsR.cons 2 rfl ?_ ?_
    · intro L us W hi hdep hR Kx hNx
      have hF := hide hR.1
      have hB := hR.2
      clear hR
      have d0 : L 0 = true := hdep 0 (by kernel_rfl)
      clear hdep
      have e5 : us 5 = vShip cx cy cu cv ck cd := (unhide hF).get (k := 0) rfl d0
      have HB := hide hB
      clear hB
      simp only [fillA, Act.put, List.setIfInBounds_toArray, List.set_cons_zero, List.set_cons_succ] at hNx ⊢
      simp only [e5] at hNx ⊢
      clear e5
      rw [if_pos (by rfl)]
      have HC := hide (unhide HWa W)
      go_simp
      refine (unhide HC).mono ?_
      rintro e W' ⟨rfl, hb⟩
      replace HB := hide ((unhide HB).step hb)
      clear hb HC
      go_wp2_with fail
      first | refine hNx _ _ ?_ | skip
      exact ⟨(unhide hF).step rfl rfl, (unhide HB).congr (fun k => by rcases k with _ | _ | k <;> simp [ERig])⟩
    refine StepsR.cons 3 rfl ?_ ?_
    · intro L us W hi hdep hR Kx hNx
      have hF := hide hR.1
      have hB := hR.2
      clear hR
      clear hdep
      have hE : ERig ax ay au av ak ad cx cy cu cv ck cd p q k w L us 0 = some (w.heap.size, [.int .i64 ax, .int .i64 ay, .int .i64 au, .int .i64 av, .int .i64 ak, .int .i64 ad]) := by simp [ERig]
      have hO := hB.ownV hE
      have c0 := hO.cell (i := 0) rfl
      have c1 := hO.cell (i := 1) rfl
      have c2 := hO.cell (i := 2) rfl
      have c3 := hO.cell (i := 3) rfl
      have c4 := hO.cell (i := 4) rfl
      have c5 := hO.cell (i := 5) rfl
      clear hO
      have HB := hide hB
      clear hB
      have HE := hide hE
      clear hE
      simp only [fillA, Act.put, List.setIfInBounds_toArray, List.set_cons_zero, List.set_cons_succ] at hNx ⊢
      rw [if_pos (by rfl)]
      go_simp
      first | refine hNx _ _ ?_ | skip
      exact ⟨(unhide hF).step rfl rfl, (unhide HB).congr (fun k => by rcases k with _ | _ | k <;> simp [ERig])⟩
    refine StepsR.cons 4 rfl ?_ ?_
    · intro L us W hi hdep hR Kx hNx
      have hF := hide hR.1
      have hB := hR.2
      clear hR
      clear hdep
      have hE : ERig ax ay au av ak ad cx cy cu cv ck cd p q k w L us 1 = some (w.heap.size + 1, [.int .i64 cx, .int .i64 cy, .int .i64 cu, .int .i64 cv, .int .i64 ck, .int .i64 cd]) := by simp [ERig]
      have hO := hB.ownV hE
      have c0 := hO.cell (i := 0) rfl
      have c1 := hO.cell (i := 1) rfl
      have c2 := hO.cell (i := 2) rfl
      have c3 := hO.cell (i := 3) rfl
      have c4 := hO.cell (i := 4) rfl
      have c5 := hO.cell (i := 5) rfl
      clear hO
      have HB := hide hB
      clear hB
      have HE := hide hE
      clear hE
      simp only [fillA, Act.put, List.setIfInBounds_toArray, List.set_cons_zero, List.set_cons_succ] at hNx ⊢
      rw [if_pos (by rfl)]
      go_simp
      first | refine hNx _ _ ?_ | skip
      exact ⟨(unhide hF).step rfl rfl, (unhide HB).congr (fun k => by rcases k with _ | _ | k <;> simp [ERig])⟩
    refine StepsR.cons 5 rfl ?_ ?_
    · intro L us W hi hdep hR Kx hNx
      have hF := hide hR.1
      have hB := hR.2
      clear hR
      have d2 : L 2 = true := hdep 2 (by kernel_rfl)
      have d3 : L 3 = true := hdep 3 (by kernel_rfl)
      clear hdep
      have e7 : us 7 = vShip ax ay au av ak ad := (unhide hF).get (k := 2) rfl d2
      have e8 : us 8 = vShip cx cy cu cv ck cd := (unhide hF).get (k := 3) rfl d3
      have HB := hide hB
      clear hB
      simp only [fillA, Act.put, List.setIfInBounds_toArray, List.set_cons_zero, List.set_cons_succ] at hNx ⊢
      simp only [e7, e8] at hNx ⊢
      clear e7 e8
      rw [if_pos (by rfl)]
      have HC := hide (unhide HBe W)
      go_simp
      refine (unhide HC).mono ?_
      rintro e W' ⟨rfl, hb⟩
      replace HB := hide ((unhide HB).step hb)
      clear hb HC
      go_wp2_with fail
      first | refine hNx _ _ ?_ | skip
      exact ⟨(unhide hF).step rfl rfl, (unhide HB).congr (fun k => by rcases k with _ | _ | k <;> simp [ERig])⟩
    refine StepsR.cons 6 rfl ?_ ?_
    · intro L us W hi hdep hR Kx hNx
      have hF := hide hR.1
      have hB := hR.2
      clear hR
      have d1 : L 1 = true := hdep 1 (by kernel_rfl)
      have d4 : L 4 = true := hdep 4 (by kernel_rfl)
      clear hdep
      have e6 : us 6 = vV cu cv := (unhide hF).get (k := 1) rfl d1
      have e9 : us 9 = vV p q := (unhide hF).get (k := 4) rfl d4
      have HB := hide hB
      clear hB
      simp only [fillA, Act.put, List.setIfInBounds_toArray, List.set_cons_zero, List.set_cons_succ] at hNx ⊢
      simp only [e6, e9] at hNx ⊢
      clear e6 e9
      rw [if_pos (by rfl)]
      have HC := hide (unhide HCr W)
      go_simp
      refine (unhide HC).mono ?_
      rintro e W' ⟨rfl, hb⟩
      replace HB := hide ((unhide HB).step hb)
      clear hb HC
      go_wp2_with fail
      first | refine hNx _ _ ?_ | skip
      exact ⟨(unhide hF).step rfl rfl, (unhide HB).congr (fun k => by rcases k with _ | _ | k <;> simp [ERig])⟩
    refine StepsR.cons 7 rfl ?_ ?_
    · intro L us W hi hdep hR Kx hNx
      have hF := hide hR.1
      have hB := hR.2
      clear hR
      have d5 : L 5 = true := hdep 5 (by kernel_rfl)
      clear hdep
      have e10 : us 10 = .int .i64 k := (unhide hF).get (k := 5) rfl d5
      have HB := hide hB
      clear hB
      simp only [fillA, Act.put, List.setIfInBounds_toArray, List.set_cons_zero, List.set_cons_succ] at hNx ⊢
      simp only [e10] at hNx ⊢
      clear e10
      rw [if_pos (by rfl)]
      go_simp
      first | refine hNx _ _ ?_ | skip
      exact ⟨(unhide hF).step rfl rfl, (unhide HB).congr (fun k => by rcases k with _ | _ | k <;> simp [ERig])⟩
    refine StepsR.cons 8 rfl ?_ ?_
    · intro L us W hi hdep hR Kx hNx
      have hF := hide hR.1
      have hB := hR.2
      clear hR
      have d6 : L 6 = true := hdep 6 (by kernel_rfl)
      clear hdep
      have e11 : us 11 = .bool (decide (k < 0)) := (unhide hF).get (k := 6) rfl d6
      have HB := hide hB
      clear hB
      simp only [fillA, Act.put, List.setIfInBounds_toArray, List.set_cons_zero, List.set_cons_succ] at hNx ⊢
      simp only [e11] at hNx ⊢
      clear e11
      rw [if_pos (by rfl)]
      go_simp
      first | refine hNx _ _ ?_ | skip
      exact ⟨(unhide hF).step rfl rfl, (unhide HB).congr (fun k => by rcases k with _ | _ | k <;> simp [ERig])⟩
    exact StepsR.nil
  · intro L us W hL hR
    have hF := hide hR.1
    have hB := hR.2
    clear hR
    have hE0 : ERig ax ay au av ak ad cx cy cu cv ck cd p q k w L us 0 = some (w.heap.size, [.int .i64 ax, .int .i64 ay, .int .i64 au, .int .i64 av, .int .i64 ak, .int .i64 ad]) := by simp [ERig]
    have hO0 := hB.ownV hE0
    have hE1 : ERig ax ay au av ak ad cx cy cu cv ck cd p q k w L us 1 = some (w.heap.size + 1, [.int .i64 cx, .int .i64 cy, .int .i64 cu, .int .i64 cv, .int .i64 ck, .int .i64 cd]) := by simp [ERig]
    have hO1 := hB.ownV hE1
    clear hE0 hE1
    have HA : Hid (Bk w W (XRig ax ay au av ak ad cx cy cu cv ck cd p q k w)) := hide (hB.congr (fun k => by rcases k with _ | _ | k <;> simp [ERig, XRig]))
    have f0 : us 5 = vShip cx cy cu cv ck cd := (unhide hF).get (k := 0) rfl (hL 0 (by decide))
    have f1 : us 6 = vV cu cv := (unhide hF).get (k := 1) rfl (hL 1 (by decide))
    have f2 : us 7 = vShip ax ay au av ak ad := (unhide hF).get (k := 2) rfl (hL 2 (by decide))
    have f3 : us 8 = vShip cx cy cu cv ck cd := (unhide hF).get (k := 3) rfl (hL 3 (by decide))
    have f4 : us 9 = vV p q := (unhide hF).get (k := 4) rfl (hL 4 (by decide))
    have f5 : us 10 = .int .i64 k := (unhide hF).get (k := 5) rfl (hL 5 (by decide))
    have f6 : us 11 = .bool (decide (k < 0)) := (unhide hF).get (k := 6) rfl (hL 6 (by decide))
    have f7 : us 4 = .bool (decide (k < 0)) := (unhide hF).get (k := 7) rfl (hL 7 (by decide))
    have HW := hide hB.below
    clear hB hL
    simp only [fillA, Act.put, List.setIfInBounds_toArray, List.set_cons_zero, List.set_cons_succ]
    simp only [f0, f1, f2, f3, f4, f5, f6, f7]
    clear hF f0 f1 f2 f3 f4 f5 f6 f7
    clear us L
    clear hO0 hO1 HBe HWa HCr
    go_wp2
    go_ret
    exact ⟨ret_bool (unhide HT).symm, unhide HW⟩


end Go.Proofs.Ytcljgaofpeaplaa

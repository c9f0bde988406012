/- The specification's Behind, l8Ahead, l8Right. Written by wip/mkrr6.py. -/
import Derived.Test.YtmgcpllkielpkaaRrE
namespace Go.Proofs.Ytmgcpllkielpkaa
open Go.RowKit

def EBsh (ax ay au av ak ad cx cy cu cv ck cd p q : Int) (w : World) (L : Nat → Bool) (us : Nat → Value) : Nat → Option (Nat × List Value)
  | 0 => some (w.heap.size, [.int .i64 ax, .int .i64 ay, .int .i64 au, .int .i64 av, .int .i64 ak, .int .i64 ad])
  | 1 => some (w.heap.size + 1, [.int .i64 cx, .int .i64 cy, .int .i64 cu, .int .i64 cv, .int .i64 ck, .int .i64 cd])
  | 2 => if L 5 then some ((gOf (us 5)), (if L 7 then [.int .i64 p, .int .i64 q] else [.int .i64 0, .int .i64 0])) else none
  | 3 => if L 6 then some ((gOf (us 6)), (if L 8 then [.int .i64 cu, .int .i64 cv] else [.int .i64 0, .int .i64 0])) else none
  | _ => none
def FBsh (ax ay au av ak ad cx cy cu cv ck cd p q : Int) : FL := [(0, 17, vShip cx cy cu cv ck cd), (1, 18, vShip ax ay au av ak ad), (2, 19, vV p q), (3, 20, vShip cx cy cu cv ck cd), (4, 21, vV cu cv)]
def RBsh (ax ay au av ak ad cx cy cu cv ck cd p q : Int) (w : World) (L : Nat → Bool) (us : Nat → Value) (W : World) : Prop :=
  Facts L us (FBsh ax ay au av ak ad cx cy cu cv ck cd p q) ∧ (L 5 = true → us 5 = .pointer (some ⟨gOf (us 5), 0, none⟩)) ∧ (L 6 = true → us 6 = .pointer (some ⟨gOf (us 6), 0, none⟩)) ∧ (L 7 = true → L 5 = true) ∧ (L 8 = true → L 6 = true) ∧ Bk w W (EBsh ax ay au av ak ad cx cy cu cv ck cd p q w L us)
def XBsh (ax ay au av ak ad cx cy cu cv ck cd p q : Int) (w : World) (g5 g6 : Nat) : Nat → Option (Nat × List Value)
  | 0 => some (w.heap.size, [.int .i64 ax, .int .i64 ay, .int .i64 au, .int .i64 av, .int .i64 ak, .int .i64 ad])
  | 1 => some (w.heap.size + 1, [.int .i64 cx, .int .i64 cy, .int .i64 cu, .int .i64 cv, .int .i64 ck, .int .i64 cd])
  | 2 => some (g5, [.int .i64 p, .int .i64 q])
  | 3 => some (g6, [.int .i64 cu, .int .i64 cv])
  | _ => none
def EBsk (ax ay au av ak ad cx cy cu cv ck cd p q _k _d : Int) (g5 g6 : Nat) (w : World) (_L : Nat → Bool) (_us : Nat → Value) : Nat → Option (Nat × List Value)
  | 0 => some (w.heap.size, [.int .i64 ax, .int .i64 ay, .int .i64 au, .int .i64 av, .int .i64 ak, .int .i64 ad])
  | 1 => some (w.heap.size + 1, [.int .i64 cx, .int .i64 cy, .int .i64 cu, .int .i64 cv, .int .i64 ck, .int .i64 cd])
  | 2 => some (g5, [.int .i64 p, .int .i64 q])
  | 3 => some (g6, [.int .i64 cu, .int .i64 cv])
  | _ => none
def FBsk (_ax _ay _au _av _ak _ad _cx _cy cu cv _ck _cd p q k d : Int) (_g5 _g6 : Nat) : FL := [(0, 22, vV p q), (1, 23, vV cu cv), (2, 24, .int .i64 k), (3, 25, vV p q), (4, 26, vV cu cv), (5, 27, .int .i64 d), (6, 7, .int .i64 k), (7, 8, .int .i64 d)]
def RBsk (ax ay au av ak ad cx cy cu cv ck cd p q k d : Int) (g5 g6 : Nat) (w : World) (L : Nat → Bool) (us : Nat → Value) (W : World) : Prop :=
  Facts L us (FBsk ax ay au av ak ad cx cy cu cv ck cd p q k d g5 g6) ∧ Bk w W (EBsk ax ay au av ak ad cx cy cu cv ck cd p q k d g5 g6 w L us)
def XBsk (ax ay au av ak ad cx cy cu cv ck cd p q _k _d : Int) (g5 g6 : Nat) (w : World) : Nat → Option (Nat × List Value)
  | 0 => some (w.heap.size, [.int .i64 ax, .int .i64 ay, .int .i64 au, .int .i64 av, .int .i64 ak, .int .i64 ad])
  | 1 => some (w.heap.size + 1, [.int .i64 cx, .int .i64 cy, .int .i64 cu, .int .i64 cv, .int .i64 ck, .int .i64 cd])
  | 2 => some (g5, [.int .i64 p, .int .i64 q])
  | 3 => some (g6, [.int .i64 cu, .int .i64 cv])
  | _ => none
set_option maxRecDepth 10000 in
set_option maxHeartbeats 3200000 in
theorem specBehind_any (ax ay au av ak ad cx cy cu cv ck cd : Int) (w : World) :
    Calls Try.prog 24 #[vShip ax ay au av ak ad, vShip cx cy cu cv ck cd] w fun e w' => e = .returned (.bool (behB ax ay au av ak ad cx cy cu cv ck cd)) ∧ Below w.heap.size w w' := by
  have HB := hide (bk_two w #[.int .i64 ax, .int .i64 ay, .int .i64 au, .int .i64 av, .int .i64 ak, .int .i64 ad] #[.int .i64 cx, .int .i64 cy, .int .i64 cu, .int .i64 cv, .int .i64 ck, .int .i64 cd] 25 25)
  have HS1 := hide fun W => specShipOk_any ax ay au av ak ad W
  have HS2 := hide fun W => specShipOk_any cx cy cu cv ck cd W
  unfold vShip at HS1 HS2 ⊢
  go_enter Try.func24, Try.ntmps24
  go_wp2_with fail
  refine (unhide HS1 _).mono ?_
  rintro e w1 ⟨rfl, hb⟩
  replace HB := hide ((unhide HB).step hb)
  clear hb HS1
  cases h1 : shipB ax ay au av ak ad
  · have HN : Hid (behB ax ay au av ak ad cx cy cu cv ck cd = false) := by show _ = _; unfold behB; rw [h1]; simp
    clear h1 HS2
    go_wp2
    go_ret
    exact ⟨ret_bool (unhide HN).symm, (unhide HB).below⟩
  have hq := (unhide HB).ownV (k := 1) rfl
  have c0 := hq.cell (i := 0) rfl
  have c1 := hq.cell (i := 1) rfl
  have c2 := hq.cell (i := 2) rfl
  have c3 := hq.cell (i := 3) rfl
  have c4 := hq.cell (i := 4) rfl
  have c5 := hq.cell (i := 5) rfl
  clear hq
  go_wp2_with fail
  refine (unhide HS2 _).mono ?_
  rintro e w2 ⟨rfl, hb⟩
  replace HB := hide ((unhide HB).step hb)
  clear hb HS2 c0 c1 c2 c3 c4 c5
  cases h2 : shipB cx cy cu cv ck cd
  · have HN : Hid (behB ax ay au av ak ad cx cy cu cv ck cd = false) := by show _ = _; unfold behB; rw [h2]; simp
    clear h1 h2
    go_wp2
    go_ret
    exact ⟨ret_bool (unhide HN).symm, (unhide HB).below⟩
  obtain ⟨ba0, ba1, ba2, ba3, ba4, ba5, ba6, ba7⟩ := shipB_bd h1
  obtain ⟨bc0, bc1, bc2, bc3, bc4, bc5, bc6, bc7⟩ := shipB_bd h2
  have HBe := hide fun W => specBearing_any cx cy cu cv ck cd ax ay au av ak ad W bc0 bc1 bc2 bc3 ba0 ba1 ba2 ba3
  have HWa := hide fun W => specWay_any cx cy cu cv ck cd W
  obtain ⟨p, ep⟩ : ∃ z, z = ax - cx := ⟨_, rfl⟩
  obtain ⟨q, eq⟩ : ∃ z, z = ay - cy := ⟨_, rfl⟩
  have n1 : p.natAbs ≤ 200000 := by omega
  have n2 : q.natAbs ≤ 200000 := by omega
  have n3 : cu.natAbs ≤ 1000 := by omega
  have n4 : cv.natAbs ≤ 1000 := by omega
  have HT : Hid (behB ax ay au av ak ad cx cy cu cv ck cd = bhB p q cu cv) := by show _ = _; unfold behB; rw [h1, h2, ep, eq]; rfl
  rw [← ep, ← eq] at HBe
  clear ep eq h1 h2 ba0 ba1 ba2 ba3 ba4 ba5 ba6 ba7 bc0 bc1 bc2 bc3 bc4 bc5 bc6 bc7
  have hbd := cross_bd n1 n2 n3 n4
  have HCr := hide fun W => specCross_any p q cu cv W n1 n2 (Nat.le_trans n3 (by decide)) (Nat.le_trans n4 (by decide))
  have HDo := hide fun W => specDot_any p q cu cv W n1 n2 (Nat.le_trans n3 (by decide)) (Nat.le_trans n4 (by decide))
  obtain ⟨k, ek⟩ : ∃ k, k = p * cv - q * cu := ⟨_, rfl⟩
  obtain ⟨d, ed⟩ : ∃ k, k = p * cu + q * cv := ⟨_, rfl⟩
  rw [← ek] at HCr hbd
  rw [← ed] at HDo hbd
  have HLe := hide fun W => l8Least5_any k d W hbd.1 hbd.2
  obtain ⟨b, eb⟩ : ∃ b, b = decide (5 * (k * k) ≤ 29 * (d * d)) := ⟨_, rfl⟩
  rw [← eb] at HLe
  have HV : Hid (bhB p q cu cv = (decide (d < 0) && b)) := by show _ = _; rw [eb, ek, ed]; rfl
  clear ek ed eb hbd n1 n2 n3 n4
  go_wp2_with fail
  have HB0 : Hid (∀ us, Bk w _ (EBsh ax ay au av ak ad cx cy cu cv ck cd p q w (fun _ => false) us)) := hide (fun us => ((unhide HB)).congr (fun k => by rcases k with _ | _ | _ | _ | k <;> simp [EBsh, E2]))
  refine wp_region_slots [17, 18, 19, 20, 21, 5, 6] (RBsh ax ay au av ak ad cx cy cu cv ck cd p q w) (by kernel_rfl) (by kernel_rfl) (by decide) (by kernel_rfl) ?_ ?_ ?_
  · intro us
    exact ⟨facts_start us _, fun h => (by cases h), fun h => (by cases h), fun h => (by cases h), fun h => (by cases h), (unhide HB0 us).drew⟩
  · clear HB0
    refine StepsR.cons 1 rfl ?_ ?_
    · intro L us W hi hdep hR Kx hNx
      have hF := hide hR.1
      have f5 := hide hR.2.1
      have f6 := hide hR.2.2.1
      have f7 := hide hR.2.2.2.1
      have f8 := hide hR.2.2.2.2.1
      have hB := hR.2.2.2.2.2
      clear hR
      clear hdep
      have hE : EBsh ax ay au av ak ad cx cy cu cv ck cd p q w L us 1 = some (w.heap.size + 1, [.int .i64 cx, .int .i64 cy, .int .i64 cu, .int .i64 cv, .int .i64 ck, .int .i64 cd]) := by simp [EBsh]
      have hO := hB.ownV hE
      have c0 := hO.cell (i := 0) rfl
      have c1 := hO.cell (i := 1) rfl
      have c2 := hO.cell (i := 2) rfl
      have c3 := hO.cell (i := 3) rfl
      have c4 := hO.cell (i := 4) rfl
      have c5 := hO.cell (i := 5) rfl
      clear hO
      have HB := hide hB
      clear hB
      have HE := hide hE
      clear hE
      simp only [fillA, Act.put, List.setIfInBounds_toArray, List.set_cons_zero, List.set_cons_succ] at hNx ⊢
      rw [if_pos (by rfl)]
      go_simp
      first | refine hNx _ _ ?_ | skip
      exact ⟨(unhide hF).step rfl rfl, keepG (unhide f5) (by decide) (by decide), keepG (unhide f6) (by decide) (by decide), keepL (unhide f7) (by decide), keepL (unhide f8) (by decide), (unhide HB).congr (fun k => by rcases k with _ | _ | _ | _ | k <;> simp [EBsh])⟩
    refine StepsR.cons 2 rfl ?_ ?_
    · intro L us W hi hdep hR Kx hNx
      have hF := hide hR.1
      have f5 := hide hR.2.1
      have f6 := hide hR.2.2.1
      have f7 := hide hR.2.2.2.1
      have f8 := hide hR.2.2.2.2.1
      have hB := hR.2.2.2.2.2
      clear hR
      clear hdep
      have hE : EBsh ax ay au av ak ad cx cy cu cv ck cd p q w L us 0 = some (w.heap.size, [.int .i64 ax, .int .i64 ay, .int .i64 au, .int .i64 av, .int .i64 ak, .int .i64 ad]) := by simp [EBsh]
      have hO := hB.ownV hE
      have c0 := hO.cell (i := 0) rfl
      have c1 := hO.cell (i := 1) rfl
      have c2 := hO.cell (i := 2) rfl
      have c3 := hO.cell (i := 3) rfl
      have c4 := hO.cell (i := 4) rfl
      have c5 := hO.cell (i := 5) rfl
      clear hO
      have HB := hide hB
      clear hB
      have HE := hide hE
      clear hE
      simp only [fillA, Act.put, List.setIfInBounds_toArray, List.set_cons_zero, List.set_cons_succ] at hNx ⊢
      rw [if_pos (by rfl)]
      go_simp
      first | refine hNx _ _ ?_ | skip
      exact ⟨(unhide hF).step rfl rfl, keepG (unhide f5) (by decide) (by decide), keepG (unhide f6) (by decide) (by decide), keepL (unhide f7) (by decide), keepL (unhide f8) (by decide), (unhide HB).congr (fun k => by rcases k with _ | _ | _ | _ | k <;> simp [EBsh])⟩
    refine StepsR.cons 3 rfl ?_ ?_
    · intro L us W hi hdep hR Kx hNx
      have hF := hide hR.1
      have f5 := hide hR.2.1
      have f6 := hide hR.2.2.1
      have f7 := hide hR.2.2.2.1
      have f8 := hide hR.2.2.2.2.1
      have hB := hR.2.2.2.2.2
      clear hR
      have d0 : L 0 = true := hdep 0 (by kernel_rfl)
      have d1 : L 1 = true := hdep 1 (by kernel_rfl)
      clear hdep
      have e17 : us 17 = vShip cx cy cu cv ck cd := (unhide hF).get (k := 0) rfl d0
      have e18 : us 18 = vShip ax ay au av ak ad := (unhide hF).get (k := 1) rfl d1
      have HB := hide hB
      clear hB
      simp only [fillA, Act.put, List.setIfInBounds_toArray, List.set_cons_zero, List.set_cons_succ] at hNx ⊢
      simp only [e17, e18] at hNx ⊢
      clear e17 e18
      rw [if_pos (by rfl)]
      have HC := hide (unhide HBe W)
      go_simp
      refine (unhide HC).mono ?_
      rintro e W' ⟨rfl, hb⟩
      replace HB := hide ((unhide HB).step hb)
      clear hb HC
      go_wp2_with fail
      first | refine hNx _ _ ?_ | skip
      exact ⟨(unhide hF).step rfl rfl, keepG (unhide f5) (by decide) (by decide), keepG (unhide f6) (by decide) (by decide), keepL (unhide f7) (by decide), keepL (unhide f8) (by decide), (unhide HB).congr (fun k => by rcases k with _ | _ | _ | _ | k <;> simp [EBsh])⟩
    refine StepsR.cons 4 rfl ?_ ?_
    · intro L us W hi hdep hR Kx hNx
      have hF := hide hR.1
      have f5 := hide hR.2.1
      have f6 := hide hR.2.2.1
      have f7 := hide hR.2.2.2.1
      have f8 := hide hR.2.2.2.2.1
      have hB := hR.2.2.2.2.2
      clear hR
      clear hdep
      have hE : EBsh ax ay au av ak ad cx cy cu cv ck cd p q w L us 1 = some (w.heap.size + 1, [.int .i64 cx, .int .i64 cy, .int .i64 cu, .int .i64 cv, .int .i64 ck, .int .i64 cd]) := by simp [EBsh]
      have hO := hB.ownV hE
      have c0 := hO.cell (i := 0) rfl
      have c1 := hO.cell (i := 1) rfl
      have c2 := hO.cell (i := 2) rfl
      have c3 := hO.cell (i := 3) rfl
      have c4 := hO.cell (i := 4) rfl
      have c5 := hO.cell (i := 5) rfl
      clear hO
      have HB := hide hB
      clear hB
      have HE := hide hE
      clear hE
      simp only [fillA, Act.put, List.setIfInBounds_toArray, List.set_cons_zero, List.set_cons_succ] at hNx ⊢
      rw [if_pos (by rfl)]
      go_simp
      first | refine hNx _ _ ?_ | skip
      exact ⟨(unhide hF).step rfl rfl, keepG (unhide f5) (by decide) (by decide), keepG (unhide f6) (by decide) (by decide), keepL (unhide f7) (by decide), keepL (unhide f8) (by decide), (unhide HB).congr (fun k => by rcases k with _ | _ | _ | _ | k <;> simp [EBsh])⟩
    refine StepsR.cons 5 rfl ?_ ?_
    · intro L us W hi hdep hR Kx hNx
      have hF := hide hR.1
      have f5 := hide hR.2.1
      have f6 := hide hR.2.2.1
      have f7 := hide hR.2.2.2.1
      have f8 := hide hR.2.2.2.2.1
      have hB := hR.2.2.2.2.2
      clear hR
      have d3 : L 3 = true := hdep 3 (by kernel_rfl)
      clear hdep
      have e20 : us 20 = vShip cx cy cu cv ck cd := (unhide hF).get (k := 3) rfl d3
      have HB := hide hB
      clear hB
      simp only [fillA, Act.put, List.setIfInBounds_toArray, List.set_cons_zero, List.set_cons_succ] at hNx ⊢
      simp only [e20] at hNx ⊢
      clear e20
      rw [if_pos (by rfl)]
      have HC := hide (unhide HWa W)
      go_simp
      refine (unhide HC).mono ?_
      rintro e W' ⟨rfl, hb⟩
      replace HB := hide ((unhide HB).step hb)
      clear hb HC
      go_wp2_with fail
      first | refine hNx _ _ ?_ | skip
      exact ⟨(unhide hF).step rfl rfl, keepG (unhide f5) (by decide) (by decide), keepG (unhide f6) (by decide) (by decide), keepL (unhide f7) (by decide), keepL (unhide f8) (by decide), (unhide HB).congr (fun k => by rcases k with _ | _ | _ | _ | k <;> simp [EBsh])⟩
    refine StepsR.cons 6 rfl ?_ ?_
    · intro L us W hi hdep hR Kx hNx
      have hF := hide hR.1
      have f5 := hide hR.2.1
      have f6 := hide hR.2.2.1
      have f7 := hide hR.2.2.2.1
      have f8 := hide hR.2.2.2.2.1
      have hB := hR.2.2.2.2.2
      clear hR
      clear hdep
      have HB := hide hB
      clear hB
      simp only [fillA, Act.put, List.setIfInBounds_toArray, List.set_cons_zero, List.set_cons_succ] at hNx ⊢
      rw [if_pos (by rfl)]
      have A1 := hide ((unhide HB).made 2 #[.int .i64 0, .int .i64 0] 76)
      go_simp
      first | refine hNx _ _ ?_ | skip
      have nst : L 7 = false := notL (unhide f7) hi
      exact ⟨(unhide hF).stepO rfl, newG, keepG (unhide f6) (by decide) (by decide), keepL (unhide f7) (by decide), keepL (unhide f8) (by decide), (unhide A1).congr (fun k => by rcases k with _ | _ | _ | _ | k <;> simp [EBsh, *])⟩
    refine StepsR.cons 7 rfl ?_ ?_
    · intro L us W hi hdep hR Kx hNx
      have hF := hide hR.1
      have f5 := hide hR.2.1
      have f6 := hide hR.2.2.1
      have f7 := hide hR.2.2.2.1
      have f8 := hide hR.2.2.2.2.1
      have hB := hR.2.2.2.2.2
      clear hR
      clear hdep
      have HB := hide hB
      clear hB
      simp only [fillA, Act.put, List.setIfInBounds_toArray, List.set_cons_zero, List.set_cons_succ] at hNx ⊢
      rw [if_pos (by rfl)]
      have A1 := hide ((unhide HB).made 3 #[.int .i64 0, .int .i64 0] 76)
      go_simp
      first | refine hNx _ _ ?_ | skip
      have nst : L 8 = false := notL (unhide f8) hi
      exact ⟨(unhide hF).stepO rfl, keepG (unhide f5) (by decide) (by decide), newG, keepL (unhide f7) (by decide), keepL (unhide f8) (by decide), (unhide A1).congr (fun k => by rcases k with _ | _ | _ | _ | k <;> simp [EBsh, *])⟩
    refine StepsR.cons 8 rfl ?_ ?_
    · intro L us W hi hdep hR Kx hNx
      have hF := hide hR.1
      have f5 := hide hR.2.1
      have f6 := hide hR.2.2.1
      have f7 := hide hR.2.2.2.1
      have f8 := hide hR.2.2.2.2.1
      have hB := hR.2.2.2.2.2
      clear hR
      have d2 : L 2 = true := hdep 2 (by kernel_rfl)
      have d5 : L 5 = true := hdep 5 (by kernel_rfl)
      clear hdep
      have hE : EBsh ax ay au av ak ad cx cy cu cv ck cd p q w L us 2 = some ((gOf (us 5)), [.int .i64 0, .int .i64 0]) := by simp [EBsh, *]
      have e19 : us 19 = vV p q := (unhide hF).get (k := 2) rfl d2
      have e5 := unhide f5 d5
      have hO := hB.ownV hE
      have c0 := hO.cell (i := 0) rfl
      have c1 := hO.cell (i := 1) rfl
      have z0 := hO.frozen 0
      have z1 := hO.frozen 1
      clear hO
      have HB := hide hB
      clear hB
      have HE := hide hE
      clear hE
      simp only [fillA, Act.put, List.setIfInBounds_toArray, List.set_cons_zero, List.set_cons_succ] at hNx ⊢
      simp only [e19] at hNx ⊢
      rw [e5] at hNx ⊢
      clear e19 e5
      rw [if_pos (by rfl)]
      have A1 := hide (((unhide HB).set (k := 2) (g := (gOf (us 5))) (vs := [.int .i64 0, .int .i64 0]) (unhide HE) 0 (.int .i64 p) (by simp)).set (k := 2) (g := (gOf (us 5))) (vs := [.int .i64 p, .int .i64 0]) (by simp) 1 (.int .i64 q) (by simp))
      go_simp
      first | refine hNx undef _ ?_ | skip
      exact ⟨(unhide hF).stepN rfl, keepGN (unhide f5) (by decide), keepGN (unhide f6) (by decide), newL d5 (by decide), keepL (unhide f8) (by decide), (unhide A1).congr (fun k => by rcases k with _ | _ | _ | _ | k <;> simp [EBsh, *])⟩
    refine StepsR.cons 9 rfl ?_ ?_
    · intro L us W hi hdep hR Kx hNx
      have hF := hide hR.1
      have f5 := hide hR.2.1
      have f6 := hide hR.2.2.1
      have f7 := hide hR.2.2.2.1
      have f8 := hide hR.2.2.2.2.1
      have hB := hR.2.2.2.2.2
      clear hR
      have d4 : L 4 = true := hdep 4 (by kernel_rfl)
      have d6 : L 6 = true := hdep 6 (by kernel_rfl)
      clear hdep
      have hE : EBsh ax ay au av ak ad cx cy cu cv ck cd p q w L us 3 = some ((gOf (us 6)), [.int .i64 0, .int .i64 0]) := by simp [EBsh, *]
      have e21 : us 21 = vV cu cv := (unhide hF).get (k := 4) rfl d4
      have e6 := unhide f6 d6
      have hO := hB.ownV hE
      have c0 := hO.cell (i := 0) rfl
      have c1 := hO.cell (i := 1) rfl
      have z0 := hO.frozen 0
      have z1 := hO.frozen 1
      clear hO
      have HB := hide hB
      clear hB
      have HE := hide hE
      clear hE
      simp only [fillA, Act.put, List.setIfInBounds_toArray, List.set_cons_zero, List.set_cons_succ] at hNx ⊢
      simp only [e21] at hNx ⊢
      rw [e6] at hNx ⊢
      clear e21 e6
      rw [if_pos (by rfl)]
      have A1 := hide (((unhide HB).set (k := 3) (g := (gOf (us 6))) (vs := [.int .i64 0, .int .i64 0]) (unhide HE) 0 (.int .i64 cu) (by simp)).set (k := 3) (g := (gOf (us 6))) (vs := [.int .i64 cu, .int .i64 0]) (by simp) 1 (.int .i64 cv) (by simp))
      go_simp
      first | refine hNx undef _ ?_ | skip
      exact ⟨(unhide hF).stepN rfl, keepGN (unhide f5) (by decide), keepGN (unhide f6) (by decide), keepL (unhide f7) (by decide), newL d6 (by decide), (unhide A1).congr (fun k => by rcases k with _ | _ | _ | _ | k <;> simp [EBsh, *])⟩
    exact StepsR.nil
  · intro L us W hL hR
    have hF := hide hR.1
    have f5 := hide hR.2.1
    have f6 := hide hR.2.2.1
    have f7 := hide hR.2.2.2.1
    have f8 := hide hR.2.2.2.2.1
    have hB := hR.2.2.2.2.2
    clear hR
    have l5 := hL 5 (by decide)
    have l6 := hL 6 (by decide)
    have l7 := hL 7 (by decide)
    have l8 := hL 8 (by decide)
    have hE0 : EBsh ax ay au av ak ad cx cy cu cv ck cd p q w L us 0 = some (w.heap.size, [.int .i64 ax, .int .i64 ay, .int .i64 au, .int .i64 av, .int .i64 ak, .int .i64 ad]) := by simp [EBsh]
    have hO0 := hB.ownV hE0
    have hE1 : EBsh ax ay au av ak ad cx cy cu cv ck cd p q w L us 1 = some (w.heap.size + 1, [.int .i64 cx, .int .i64 cy, .int .i64 cu, .int .i64 cv, .int .i64 ck, .int .i64 cd]) := by simp [EBsh]
    have hO1 := hB.ownV hE1
    have hE2 : EBsh ax ay au av ak ad cx cy cu cv ck cd p q w L us 2 = some ((gOf (us 5)), [.int .i64 p, .int .i64 q]) := by simp [EBsh, *]
    have hO2 := hB.ownV hE2
    have hE3 : EBsh ax ay au av ak ad cx cy cu cv ck cd p q w L us 3 = some ((gOf (us 6)), [.int .i64 cu, .int .i64 cv]) := by simp [EBsh, *]
    have hO3 := hB.ownV hE3
    have hg2 := (hB.own 2 _ _ hE2).1
    have ha2_0 := hB.apart 2 0 _ _ _ _ hE2 hE0 (by decide)
    have ha2_1 := hB.apart 2 1 _ _ _ _ hE2 hE1 (by decide)
    have hg3 := (hB.own 3 _ _ hE3).1
    have ha3_0 := hB.apart 3 0 _ _ _ _ hE3 hE0 (by decide)
    have ha3_1 := hB.apart 3 1 _ _ _ _ hE3 hE1 (by decide)
    have ha3_2 := hB.apart 3 2 _ _ _ _ hE3 hE2 (by decide)
    clear hE0 hE1 hE2 hE3
    have HA : Hid (Bk w W (XBsh ax ay au av ak ad cx cy cu cv ck cd p q w (gOf (us 5)) (gOf (us 6)))) := hide (hB.congr (fun k => by rcases k with _ | _ | _ | _ | k <;> simp [EBsh, XBsh, *]))
    have f0 : us 17 = vShip cx cy cu cv ck cd := (unhide hF).get (k := 0) rfl (hL 0 (by decide))
    have f1 : us 18 = vShip ax ay au av ak ad := (unhide hF).get (k := 1) rfl (hL 1 (by decide))
    have f2 : us 19 = vV p q := (unhide hF).get (k := 2) rfl (hL 2 (by decide))
    have f3 : us 20 = vShip cx cy cu cv ck cd := (unhide hF).get (k := 3) rfl (hL 3 (by decide))
    have f4 : us 21 = vV cu cv := (unhide hF).get (k := 4) rfl (hL 4 (by decide))
    replace f5 := unhide f5 (hL 5 (by decide))
    replace f6 := unhide f6 (hL 6 (by decide))
    have HW := hide hB.below
    clear hB hL l5 l6 l7 l8
    simp only [fillA, Act.put, List.setIfInBounds_toArray, List.set_cons_zero, List.set_cons_succ]
    simp only [f0, f1, f2, f3, f4]
    rw [f5]
    rw [f6]
    clear hF f0 f1 f2 f3 f4 f5 f6 f7 f8
    generalize gOf (us 5) = g5 at *
    generalize gOf (us 6) = g6 at *
    clear us L
    clear hO0 hO1 hO2 hO3 hg2 hg3 ha2_0 ha2_1 ha3_0 ha3_1 ha3_2 HW HBe HWa HB
    go_wp2_with fail
    have HB0 : Hid (∀ us, Bk w _ (EBsk ax ay au av ak ad cx cy cu cv ck cd p q k d g5 g6 w (fun _ => false) us)) := hide (fun us => ((unhide HA)).congr (fun k => by rcases k with _ | _ | _ | _ | k <;> simp [EBsk, XBsh]))
    refine wp_region_slots [22, 23, 24, 25, 26, 27, 7, 8] (RBsk ax ay au av ak ad cx cy cu cv ck cd p q k d g5 g6 w) (by kernel_rfl) (by kernel_rfl) (by decide) (by kernel_rfl) ?_ ?_ ?_
    · intro us
      exact ⟨facts_start us _, (unhide HB0 us).drew⟩
    · clear HB0
      refine StepsR.cons 1 rfl ?_ ?_
      · intro L us W hi hdep hR Kx hNx
        have hF := hide hR.1
        have hB := hR.2
        clear hR
        clear hdep
        have hE : EBsk ax ay au av ak ad cx cy cu cv ck cd p q k d g5 g6 w L us 2 = some (g5, [.int .i64 p, .int .i64 q]) := by simp [EBsk]
        have hO := hB.ownV hE
        have c0 := hO.cell (i := 0) rfl
        have c1 := hO.cell (i := 1) rfl
        clear hO
        have HB := hide hB
        clear hB
        have HE := hide hE
        clear hE
        simp only [fillA, Act.put, List.setIfInBounds_toArray, List.set_cons_zero, List.set_cons_succ] at hNx ⊢
        rw [if_pos (by rfl)]
        go_simp
        first | refine hNx _ _ ?_ | skip
        exact ⟨(unhide hF).step rfl rfl, (unhide HB).congr (fun k => by rcases k with _ | _ | _ | _ | k <;> simp [EBsk])⟩
      refine StepsR.cons 2 rfl ?_ ?_
      · intro L us W hi hdep hR Kx hNx
        have hF := hide hR.1
        have hB := hR.2
        clear hR
        clear hdep
        have hE : EBsk ax ay au av ak ad cx cy cu cv ck cd p q k d g5 g6 w L us 3 = some (g6, [.int .i64 cu, .int .i64 cv]) := by simp [EBsk]
        have hO := hB.ownV hE
        have c0 := hO.cell (i := 0) rfl
        have c1 := hO.cell (i := 1) rfl
        clear hO
        have HB := hide hB
        clear hB
        have HE := hide hE
        clear hE
        simp only [fillA, Act.put, List.setIfInBounds_toArray, List.set_cons_zero, List.set_cons_succ] at hNx ⊢
        rw [if_pos (by rfl)]
        go_simp
        first | refine hNx _ _ ?_ | skip
        exact ⟨(unhide hF).step rfl rfl, (unhide HB).congr (fun k => by rcases k with _ | _ | _ | _ | k <;> simp [EBsk])⟩
      refine StepsR.cons 3 rfl ?_ ?_
      · intro L us W hi hdep hR Kx hNx
        have hF := hide hR.1
        have hB := hR.2
        clear hR
        have d0 : L 0 = true := hdep 0 (by kernel_rfl)
        have d1 : L 1 = true := hdep 1 (by kernel_rfl)
        clear hdep
        have e22 : us 22 = vV p q := (unhide hF).get (k := 0) rfl d0
        have e23 : us 23 = vV cu cv := (unhide hF).get (k := 1) rfl d1
        have HB := hide hB
        clear hB
        simp only [fillA, Act.put, List.setIfInBounds_toArray, List.set_cons_zero, List.set_cons_succ] at hNx ⊢
        simp only [e22, e23] at hNx ⊢
        clear e22 e23
        rw [if_pos (by rfl)]
        have HC := hide (unhide HCr W)
        go_simp
        refine (unhide HC).mono ?_
        rintro e W' ⟨rfl, hb⟩
        replace HB := hide ((unhide HB).step hb)
        clear hb HC
        go_wp2_with fail
        first | refine hNx _ _ ?_ | skip
        exact ⟨(unhide hF).step rfl rfl, (unhide HB).congr (fun k => by rcases k with _ | _ | _ | _ | k <;> simp [EBsk])⟩
      refine StepsR.cons 4 rfl ?_ ?_
      · intro L us W hi hdep hR Kx hNx
        have hF := hide hR.1
        have hB := hR.2
        clear hR
        clear hdep
        have hE : EBsk ax ay au av ak ad cx cy cu cv ck cd p q k d g5 g6 w L us 2 = some (g5, [.int .i64 p, .int .i64 q]) := by simp [EBsk]
        have hO := hB.ownV hE
        have c0 := hO.cell (i := 0) rfl
        have c1 := hO.cell (i := 1) rfl
        clear hO
        have HB := hide hB
        clear hB
        have HE := hide hE
        clear hE
        simp only [fillA, Act.put, List.setIfInBounds_toArray, List.set_cons_zero, List.set_cons_succ] at hNx ⊢
        rw [if_pos (by rfl)]
        go_simp
        first | refine hNx _ _ ?_ | skip
        exact ⟨(unhide hF).step rfl rfl, (unhide HB).congr (fun k => by rcases k with _ | _ | _ | _ | k <;> simp [EBsk])⟩
      refine StepsR.cons 5 rfl ?_ ?_
      · intro L us W hi hdep hR Kx hNx
        have hF := hide hR.1
        have hB := hR.2
        clear hR
        clear hdep
        have hE : EBsk ax ay au av ak ad cx cy cu cv ck cd p q k d g5 g6 w L us 3 = some (g6, [.int .i64 cu, .int .i64 cv]) := by simp [EBsk]
        have hO := hB.ownV hE
        have c0 := hO.cell (i := 0) rfl
        have c1 := hO.cell (i := 1) rfl
        clear hO
        have HB := hide hB
        clear hB
        have HE := hide hE
        clear hE
        simp only [fillA, Act.put, List.setIfInBounds_toArray, List.set_cons_zero, List.set_cons_succ] at hNx ⊢
        rw [if_pos (by rfl)]
        go_simp
        first | refine hNx _ _ ?_ | skip
        exact ⟨(unhide hF).step rfl rfl, (unhide HB).congr (fun k => by rcases k with _ | _ | _ | _ | k <;> simp [EBsk])⟩
      refine StepsR.cons 6 rfl ?_ ?_
      · intro L us W hi hdep hR Kx hNx
        have hF := hide hR.1
        have hB := hR.2
        clear hR
        have d3 : L 3 = true := hdep 3 (by kernel_rfl)
        have d4 : L 4 = true := hdep 4 (by kernel_rfl)
        clear hdep
        have e25 : us 25 = vV p q := (unhide hF).get (k := 3) rfl d3
        have e26 : us 26 = vV cu cv := (unhide hF).get (k := 4) rfl d4
        have HB := hide hB
        clear hB
        simp only [fillA, Act.put, List.setIfInBounds_toArray, List.set_cons_zero, List.set_cons_succ] at hNx ⊢
        simp only [e25, e26] at hNx ⊢
        clear e25 e26
        rw [if_pos (by rfl)]
        have HC := hide (unhide HDo W)
        go_simp
        refine (unhide HC).mono ?_
        rintro e W' ⟨rfl, hb⟩
        replace HB := hide ((unhide HB).step hb)
        clear hb HC
        go_wp2_with fail
        first | refine hNx _ _ ?_ | skip
        exact ⟨(unhide hF).step rfl rfl, (unhide HB).congr (fun k => by rcases k with _ | _ | _ | _ | k <;> simp [EBsk])⟩
      refine StepsR.cons 7 rfl ?_ ?_
      · intro L us W hi hdep hR Kx hNx
        have hF := hide hR.1
        have hB := hR.2
        clear hR
        have d2 : L 2 = true := hdep 2 (by kernel_rfl)
        clear hdep
        have e24 : us 24 = .int .i64 k := (unhide hF).get (k := 2) rfl d2
        have HB := hide hB
        clear hB
        simp only [fillA, Act.put, List.setIfInBounds_toArray, List.set_cons_zero, List.set_cons_succ] at hNx ⊢
        simp only [e24] at hNx ⊢
        clear e24
        rw [if_pos (by rfl)]
        go_simp
        first | refine hNx _ _ ?_ | skip
        exact ⟨(unhide hF).step rfl rfl, (unhide HB).congr (fun k => by rcases k with _ | _ | _ | _ | k <;> simp [EBsk])⟩
      refine StepsR.cons 8 rfl ?_ ?_
      · intro L us W hi hdep hR Kx hNx
        have hF := hide hR.1
        have hB := hR.2
        clear hR
        have d5 : L 5 = true := hdep 5 (by kernel_rfl)
        clear hdep
        have e27 : us 27 = .int .i64 d := (unhide hF).get (k := 5) rfl d5
        have HB := hide hB
        clear hB
        simp only [fillA, Act.put, List.setIfInBounds_toArray, List.set_cons_zero, List.set_cons_succ] at hNx ⊢
        simp only [e27] at hNx ⊢
        clear e27
        rw [if_pos (by rfl)]
        go_simp
        first | refine hNx _ _ ?_ | skip
        exact ⟨(unhide hF).step rfl rfl, (unhide HB).congr (fun k => by rcases k with _ | _ | _ | _ | k <;> simp [EBsk])⟩
      exact StepsR.nil
    · intro L us W hL hR
      have hF := hide hR.1
      have hB := hR.2
      clear hR
      have hE0 : EBsk ax ay au av ak ad cx cy cu cv ck cd p q k d g5 g6 w L us 0 = some (w.heap.size, [.int .i64 ax, .int .i64 ay, .int .i64 au, .int .i64 av, .int .i64 ak, .int .i64 ad]) := by simp [EBsk]
      have hO0 := hB.ownV hE0
      have hE1 : EBsk ax ay au av ak ad cx cy cu cv ck cd p q k d g5 g6 w L us 1 = some (w.heap.size + 1, [.int .i64 cx, .int .i64 cy, .int .i64 cu, .int .i64 cv, .int .i64 ck, .int .i64 cd]) := by simp [EBsk]
      have hO1 := hB.ownV hE1
      have hE2 : EBsk ax ay au av ak ad cx cy cu cv ck cd p q k d g5 g6 w L us 2 = some (g5, [.int .i64 p, .int .i64 q]) := by simp [EBsk]
      have hO2 := hB.ownV hE2
      have hE3 : EBsk ax ay au av ak ad cx cy cu cv ck cd p q k d g5 g6 w L us 3 = some (g6, [.int .i64 cu, .int .i64 cv]) := by simp [EBsk]
      have hO3 := hB.ownV hE3
      clear hE0 hE1 hE2 hE3
      have HA : Hid (Bk w W (XBsk ax ay au av ak ad cx cy cu cv ck cd p q k d g5 g6 w)) := hide (hB.congr (fun k => by rcases k with _ | _ | _ | _ | k <;> simp [EBsk, XBsk]))
      have f0 : us 22 = vV p q := (unhide hF).get (k := 0) rfl (hL 0 (by decide))
      have f1 : us 23 = vV cu cv := (unhide hF).get (k := 1) rfl (hL 1 (by decide))
      have f2 : us 24 = .int .i64 k := (unhide hF).get (k := 2) rfl (hL 2 (by decide))
      have f3 : us 25 = vV p q := (unhide hF).get (k := 3) rfl (hL 3 (by decide))
      have f4 : us 26 = vV cu cv := (unhide hF).get (k := 4) rfl (hL 4 (by decide))
      have f5 : us 27 = .int .i64 d := (unhide hF).get (k := 5) rfl (hL 5 (by decide))
      have f6 : us 7 = .int .i64 k := (unhide hF).get (k := 6) rfl (hL 6 (by decide))
      have f7 : us 8 = .int .i64 d := (unhide hF).get (k := 7) rfl (hL 7 (by decide))
      have HW := hide hB.below
      clear hB hL
      simp only [fillA, Act.put, List.setIfInBounds_toArray, List.set_cons_zero, List.set_cons_succ]
      simp only [f0, f1, f2, f3, f4, f5, f6, f7]
      clear hF f0 f1 f2 f3 f4 f5 f6 f7
      clear us L
      clear hO0 hO1 hO2 hO3 HA HCr HDo
      cases hd : decide (d < 0)
      · rw [hd] at HV
        go_wp2
        go_ret
        exact ⟨ret_bool (by rw [unhide HT, unhide HV]; rfl), unhide HW⟩
      rw [hd] at HV
      go_wp2_with (go_at_call 64; refine (unhide HLe _).mono ?_; rintro e w' ⟨rfl, h9⟩; have h8 := h9.symm; subst h8; clear h9)
      go_ret
      exact ⟨ret_bool (by rw [unhide HT, unhide HV]; simp), unhide HW⟩

def EAsh (ax ay au av ak ad cx cy cu cv ck cd p q : Int) (w : World) (L : Nat → Bool) (us : Nat → Value) : Nat → Option (Nat × List Value)
  | 0 => some (w.heap.size, [.int .i64 ax, .int .i64 ay, .int .i64 au, .int .i64 av, .int .i64 ak, .int .i64 ad])
  | 1 => some (w.heap.size + 1, [.int .i64 cx, .int .i64 cy, .int .i64 cu, .int .i64 cv, .int .i64 ck, .int .i64 cd])
  | 2 => if L 5 then some ((gOf (us 5)), (if L 7 then [.int .i64 p, .int .i64 q] else [.int .i64 0, .int .i64 0])) else none
  | 3 => if L 6 then some ((gOf (us 6)), (if L 8 then [.int .i64 au, .int .i64 av] else [.int .i64 0, .int .i64 0])) else none
  | _ => none
def FAsh (ax ay au av ak ad cx cy cu cv ck cd p q : Int) : FL := [(0, 7, vShip ax ay au av ak ad), (1, 8, vShip cx cy cu cv ck cd), (2, 9, vV p q), (3, 10, vShip ax ay au av ak ad), (4, 11, vV au av)]
def RAsh (ax ay au av ak ad cx cy cu cv ck cd p q : Int) (w : World) (L : Nat → Bool) (us : Nat → Value) (W : World) : Prop :=
  Facts L us (FAsh ax ay au av ak ad cx cy cu cv ck cd p q) ∧ (L 5 = true → us 5 = .pointer (some ⟨gOf (us 5), 0, none⟩)) ∧ (L 6 = true → us 6 = .pointer (some ⟨gOf (us 6), 0, none⟩)) ∧ (L 7 = true → L 5 = true) ∧ (L 8 = true → L 6 = true) ∧ Bk w W (EAsh ax ay au av ak ad cx cy cu cv ck cd p q w L us)
def XAsh (ax ay au av ak ad cx cy cu cv ck cd p q : Int) (w : World) (g5 g6 : Nat) : Nat → Option (Nat × List Value)
  | 0 => some (w.heap.size, [.int .i64 ax, .int .i64 ay, .int .i64 au, .int .i64 av, .int .i64 ak, .int .i64 ad])
  | 1 => some (w.heap.size + 1, [.int .i64 cx, .int .i64 cy, .int .i64 cu, .int .i64 cv, .int .i64 ck, .int .i64 cd])
  | 2 => some (g5, [.int .i64 p, .int .i64 q])
  | 3 => some (g6, [.int .i64 au, .int .i64 av])
  | _ => none
def EAst (ax ay au av ak ad cx cy cu cv ck cd p q _k _d : Int) (_b : Bool) (g5 g6 : Nat) (w : World) (_L : Nat → Bool) (_us : Nat → Value) : Nat → Option (Nat × List Value)
  | 0 => some (w.heap.size, [.int .i64 ax, .int .i64 ay, .int .i64 au, .int .i64 av, .int .i64 ak, .int .i64 ad])
  | 1 => some (w.heap.size + 1, [.int .i64 cx, .int .i64 cy, .int .i64 cu, .int .i64 cv, .int .i64 ck, .int .i64 cd])
  | 2 => some (g5, [.int .i64 p, .int .i64 q])
  | 3 => some (g6, [.int .i64 au, .int .i64 av])
  | _ => none
def FAst (_ax _ay au av _ak _ad _cx _cy _cu _cv _ck _cd p q k d : Int) (b : Bool) (_g5 _g6 : Nat) : FL := [(0, 12, vV p q), (1, 13, vV au av), (2, 14, .int .i64 d), (3, 15, .bool true), (4, 16, .bool true), (5, 17, vV p q), (6, 18, vV au av), (7, 19, .int .i64 k), (8, 20, vV p q), (9, 21, vV au av), (10, 22, .int .i64 d), (11, 23, .bool b), (12, 24, .bool b), (13, 4, .bool b)]
def RAst (ax ay au av ak ad cx cy cu cv ck cd p q k d : Int) (b : Bool) (g5 g6 : Nat) (w : World) (L : Nat → Bool) (us : Nat → Value) (W : World) : Prop :=
  Facts L us (FAst ax ay au av ak ad cx cy cu cv ck cd p q k d b g5 g6) ∧ Bk w W (EAst ax ay au av ak ad cx cy cu cv ck cd p q k d b g5 g6 w L us)
def XAst (ax ay au av ak ad cx cy cu cv ck cd p q _k _d : Int) (_b : Bool) (g5 g6 : Nat) (w : World) : Nat → Option (Nat × List Value)
  | 0 => some (w.heap.size, [.int .i64 ax, .int .i64 ay, .int .i64 au, .int .i64 av, .int .i64 ak, .int .i64 ad])
  | 1 => some (w.heap.size + 1, [.int .i64 cx, .int .i64 cy, .int .i64 cu, .int .i64 cv, .int .i64 ck, .int .i64 cd])
  | 2 => some (g5, [.int .i64 p, .int .i64 q])
  | 3 => some (g6, [.int .i64 au, .int .i64 av])
  | _ => none
def EAsf (ax ay au av ak ad cx cy cu cv ck cd p q _k _d : Int) (_b : Bool) (g5 g6 : Nat) (w : World) (_L : Nat → Bool) (_us : Nat → Value) : Nat → Option (Nat × List Value)
  | 0 => some (w.heap.size, [.int .i64 ax, .int .i64 ay, .int .i64 au, .int .i64 av, .int .i64 ak, .int .i64 ad])
  | 1 => some (w.heap.size + 1, [.int .i64 cx, .int .i64 cy, .int .i64 cu, .int .i64 cv, .int .i64 ck, .int .i64 cd])
  | 2 => some (g5, [.int .i64 p, .int .i64 q])
  | 3 => some (g6, [.int .i64 au, .int .i64 av])
  | _ => none
def FAsf (_ax _ay au av _ak _ad _cx _cy _cu _cv _ck _cd p q _k d : Int) (_b : Bool) (_g5 _g6 : Nat) : FL := [(0, 12, vV p q), (1, 13, vV au av), (2, 14, .int .i64 d), (3, 15, .bool false), (4, 16, .bool false), (5, 17, undef), (6, 18, undef), (7, 19, undef), (8, 20, undef), (9, 21, undef), (10, 22, undef), (11, 23, undef), (12, 24, .bool false), (13, 4, .bool false)]
def RAsf (ax ay au av ak ad cx cy cu cv ck cd p q k d : Int) (b : Bool) (g5 g6 : Nat) (w : World) (L : Nat → Bool) (us : Nat → Value) (W : World) : Prop :=
  Facts L us (FAsf ax ay au av ak ad cx cy cu cv ck cd p q k d b g5 g6) ∧ Bk w W (EAsf ax ay au av ak ad cx cy cu cv ck cd p q k d b g5 g6 w L us)
def XAsf (ax ay au av ak ad cx cy cu cv ck cd p q _k _d : Int) (_b : Bool) (g5 g6 : Nat) (w : World) : Nat → Option (Nat × List Value)
  | 0 => some (w.heap.size, [.int .i64 ax, .int .i64 ay, .int .i64 au, .int .i64 av, .int .i64 ak, .int .i64 ad])
  | 1 => some (w.heap.size + 1, [.int .i64 cx, .int .i64 cy, .int .i64 cu, .int .i64 cv, .int .i64 ck, .int .i64 cd])
  | 2 => some (g5, [.int .i64 p, .int .i64 q])
  | 3 => some (g6, [.int .i64 au, .int .i64 av])
  | _ => none
set_option maxRecDepth 10000 in
set_option maxHeartbeats 3200000 in
theorem specAhead_any (ax ay au av ak ad cx cy cu cv ck cd : Int) (w : World) (h1 : shipB ax ay au av ak ad = true) (h2 : shipB cx cy cu cv ck cd = true) :
    Calls Try.prog 66 #[vShip ax ay au av ak ad, vShip cx cy cu cv ck cd] w fun e w' => e = .returned (.bool (ahdB ax ay au av ak ad cx cy cu cv ck cd)) ∧ Below w.heap.size w w' := by
  obtain ⟨ba0, ba1, ba2, ba3, ba4, ba5, ba6, ba7⟩ := shipB_bd h1
  obtain ⟨bc0, bc1, bc2, bc3, bc4, bc5, bc6, bc7⟩ := shipB_bd h2
  have HBe := hide fun W => specBearing_any ax ay au av ak ad cx cy cu cv ck cd W ba0 ba1 ba2 ba3 bc0 bc1 bc2 bc3
  have HWa := hide fun W => specWay_any ax ay au av ak ad W
  obtain ⟨p, ep⟩ : ∃ z, z = cx - ax := ⟨_, rfl⟩
  obtain ⟨q, eq⟩ : ∃ z, z = cy - ay := ⟨_, rfl⟩
  have n1 : p.natAbs ≤ 200000 := by omega
  have n2 : q.natAbs ≤ 200000 := by omega
  have n3 : au.natAbs ≤ 1000 := by omega
  have n4 : av.natAbs ≤ 1000 := by omega
  have HT : Hid (ahdB ax ay au av ak ad cx cy cu cv ck cd = ahB p q au av) := by show _ = _; unfold ahdB; rw [ep, eq]
  rw [← ep, ← eq] at HBe
  clear ep eq h1 h2 ba0 ba1 ba2 ba3 ba4 ba5 ba6 ba7 bc0 bc1 bc2 bc3 bc4 bc5 bc6 bc7
  have hbd := cross_bd n1 n2 n3 n4
  have HCr := hide fun W => specCross_any p q au av W n1 n2 (Nat.le_trans n3 (by decide)) (Nat.le_trans n4 (by decide))
  have HDo := hide fun W => specDot_any p q au av W n1 n2 (Nat.le_trans n3 (by decide)) (Nat.le_trans n4 (by decide))
  obtain ⟨k, ek⟩ : ∃ k, k = p * av - q * au := ⟨_, rfl⟩
  obtain ⟨d, ed⟩ : ∃ k, k = p * au + q * av := ⟨_, rfl⟩
  rw [← ek] at HCr hbd
  rw [← ed] at HDo hbd
  have HLe := hide fun W => l8Least100_any k d W hbd.1 hbd.2
  obtain ⟨b, eb⟩ : ∃ b, b = decide (100 * (k * k) ≤ 1 * (d * d)) := ⟨_, rfl⟩
  rw [← eb] at HLe
  have HV : Hid (ahB p q au av = (decide (0 < d) && b)) := by show _ = _; rw [eb, ek, ed]; rfl
  clear ek ed eb hbd n1 n2 n3 n4
  have HB := hide (bk_two w #[.int .i64 ax, .int .i64 ay, .int .i64 au, .int .i64 av, .int .i64 ak, .int .i64 ad] #[.int .i64 cx, .int .i64 cy, .int .i64 cu, .int .i64 cv, .int .i64 ck, .int .i64 cd] 25 25)
  unfold vShip
  go_enter Try.func66, Try.ntmps66
  go_wp2_with fail
  have HB0 : Hid (∀ us, Bk w _ (EAsh ax ay au av ak ad cx cy cu cv ck cd p q w (fun _ => false) us)) := hide (fun us => ((unhide HB)).congr (fun k => by rcases k with _ | _ | _ | _ | k <;> simp [EAsh, E2]))
  refine wp_region_slots [7, 8, 9, 10, 11, 5, 6] (RAsh ax ay au av ak ad cx cy cu cv ck cd p q w) (by kernel_rfl) (by kernel_rfl) (by decide) (by kernel_rfl) ?_ ?_ ?_
  · intro us
    exact ⟨facts_start us _, fun h => (by cases h), fun h => (by cases h), fun h => (by cases h), fun h => (by cases h), (unhide HB0 us).drew⟩
  · clear HB0
    refine StepsR.cons 1 rfl ?_ ?_
    · intro L us W hi hdep hR Kx hNx
      have hF := hide hR.1
      have f5 := hide hR.2.1
      have f6 := hide hR.2.2.1
      have f7 := hide hR.2.2.2.1
      have f8 := hide hR.2.2.2.2.1
      have hB := hR.2.2.2.2.2
      clear hR
      clear hdep
      have hE : EAsh ax ay au av ak ad cx cy cu cv ck cd p q w L us 0 = some (w.heap.size, [.int .i64 ax, .int .i64 ay, .int .i64 au, .int .i64 av, .int .i64 ak, .int .i64 ad]) := by simp [EAsh]
      have hO := hB.ownV hE
      have c0 := hO.cell (i := 0) rfl
      have c1 := hO.cell (i := 1) rfl
      have c2 := hO.cell (i := 2) rfl
      have c3 := hO.cell (i := 3) rfl
      have c4 := hO.cell (i := 4) rfl
      have c5 := hO.cell (i := 5) rfl
      clear hO
      have HB := hide hB
      clear hB
      have HE := hide hE
      clear hE
      simp only [fillA, Act.put, List.setIfInBounds_toArray, List.set_cons_zero, List.set_cons_succ] at hNx ⊢
      rw [if_pos (by rfl)]
      go_simp
      first | refine hNx _ _ ?_ | skip
      exact ⟨(unhide hF).step rfl rfl, keepG (unhide f5) (by decide) (by decide), keepG (unhide f6) (by decide) (by decide), keepL (unhide f7) (by decide), keepL (unhide f8) (by decide), (unhide HB).congr (fun k => by rcases k with _ | _ | _ | _ | k <;> simp [EAsh])⟩
    refine StepsR.cons 2 rfl ?_ ?_
    · intro L us W hi hdep hR Kx hNx
      have hF := hide hR.1
      have f5 := hide hR.2.1
      have f6 := hide hR.2.2.1
      have f7 := hide hR.2.2.2.1
      have f8 := hide hR.2.2.2.2.1
      have hB := hR.2.2.2.2.2
      clear hR
      clear hdep
      have hE : EAsh ax ay au av ak ad cx cy cu cv ck cd p q w L us 1 = some (w.heap.size + 1, [.int .i64 cx, .int .i64 cy, .int .i64 cu, .int .i64 cv, .int .i64 ck, .int .i64 cd]) := by simp [EAsh]
      have hO := hB.ownV hE
      have c0 := hO.cell (i := 0) rfl
      have c1 := hO.cell (i := 1) rfl
      have c2 := hO.cell (i := 2) rfl
      have c3 := hO.cell (i := 3) rfl
      have c4 := hO.cell (i := 4) rfl
      have c5 := hO.cell (i := 5) rfl
      clear hO
      have HB := hide hB
      clear hB
      have HE := hide hE
      clear hE
      simp only [fillA, Act.put, List.setIfInBounds_toArray, List.set_cons_zero, List.set_cons_succ] at hNx ⊢
      rw [if_pos (by rfl)]
      go_simp
      first | refine hNx _ _ ?_ | skip
      exact ⟨(unhide hF).step rfl rfl, keepG (unhide f5) (by decide) (by decide), keepG (unhide f6) (by decide) (by decide), keepL (unhide f7) (by decide), keepL (unhide f8) (by decide), (unhide HB).congr (fun k => by rcases k with _ | _ | _ | _ | k <;> simp [EAsh])⟩
    refine StepsR.cons 3 rfl ?_ ?_
    · intro L us W hi hdep hR Kx hNx
      have hF := hide hR.1
      have f5 := hide hR.2.1
      have f6 := hide hR.2.2.1
      have f7 := hide hR.2.2.2.1
      have f8 := hide hR.2.2.2.2.1
      have hB := hR.2.2.2.2.2
      clear hR
      have d0 : L 0 = true := hdep 0 (by kernel_rfl)
      have d1 : L 1 = true := hdep 1 (by kernel_rfl)
      clear hdep
      have e7 : us 7 = vShip ax ay au av ak ad := (unhide hF).get (k := 0) rfl d0
      have e8 : us 8 = vShip cx cy cu cv ck cd := (unhide hF).get (k := 1) rfl d1
      have HB := hide hB
      clear hB
      simp only [fillA, Act.put, List.setIfInBounds_toArray, List.set_cons_zero, List.set_cons_succ] at hNx ⊢
      simp only [e7, e8] at hNx ⊢
      clear e7 e8
      rw [if_pos (by rfl)]
      have HC := hide (unhide HBe W)
      go_simp
      refine (unhide HC).mono ?_
      rintro e W' ⟨rfl, hb⟩
      replace HB := hide ((unhide HB).step hb)
      clear hb HC
      go_wp2_with fail
      first | refine hNx _ _ ?_ | skip
      exact ⟨(unhide hF).step rfl rfl, keepG (unhide f5) (by decide) (by decide), keepG (unhide f6) (by decide) (by decide), keepL (unhide f7) (by decide), keepL (unhide f8) (by decide), (unhide HB).congr (fun k => by rcases k with _ | _ | _ | _ | k <;> simp [EAsh])⟩
    refine StepsR.cons 4 rfl ?_ ?_
    · intro L us W hi hdep hR Kx hNx
      have hF := hide hR.1
      have f5 := hide hR.2.1
      have f6 := hide hR.2.2.1
      have f7 := hide hR.2.2.2.1
      have f8 := hide hR.2.2.2.2.1
      have hB := hR.2.2.2.2.2
      clear hR
      clear hdep
      have hE : EAsh ax ay au av ak ad cx cy cu cv ck cd p q w L us 0 = some (w.heap.size, [.int .i64 ax, .int .i64 ay, .int .i64 au, .int .i64 av, .int .i64 ak, .int .i64 ad]) := by simp [EAsh]
      have hO := hB.ownV hE
      have c0 := hO.cell (i := 0) rfl
      have c1 := hO.cell (i := 1) rfl
      have c2 := hO.cell (i := 2) rfl
      have c3 := hO.cell (i := 3) rfl
      have c4 := hO.cell (i := 4) rfl
      have c5 := hO.cell (i := 5) rfl
      clear hO
      have HB := hide hB
      clear hB
      have HE := hide hE
      clear hE
      simp only [fillA, Act.put, List.setIfInBounds_toArray, List.set_cons_zero, List.set_cons_succ] at hNx ⊢
      rw [if_pos (by rfl)]
      go_simp
      first | refine hNx _ _ ?_ | skip
      exact ⟨(unhide hF).step rfl rfl, keepG (unhide f5) (by decide) (by decide), keepG (unhide f6) (by decide) (by decide), keepL (unhide f7) (by decide), keepL (unhide f8) (by decide), (unhide HB).congr (fun k => by rcases k with _ | _ | _ | _ | k <;> simp [EAsh])⟩
    refine StepsR.cons 5 rfl ?_ ?_
    · intro L us W hi hdep hR Kx hNx
      have hF := hide hR.1
      have f5 := hide hR.2.1
      have f6 := hide hR.2.2.1
      have f7 := hide hR.2.2.2.1
      have f8 := hide hR.2.2.2.2.1
      have hB := hR.2.2.2.2.2
      clear hR
      have d3 : L 3 = true := hdep 3 (by kernel_rfl)
      clear hdep
      have e10 : us 10 = vShip ax ay au av ak ad := (unhide hF).get (k := 3) rfl d3
      have HB := hide hB
      clear hB
      simp only [fillA, Act.put, List.setIfInBounds_toArray, List.set_cons_zero, List.set_cons_succ] at hNx ⊢
      simp only [e10] at hNx ⊢
      clear e10
      rw [if_pos (by rfl)]
      have HC := hide (unhide HWa W)
      go_simp
      refine (unhide HC).mono ?_
      rintro e W' ⟨rfl, hb⟩
      replace HB := hide ((unhide HB).step hb)
      clear hb HC
      go_wp2_with fail
      first | refine hNx _ _ ?_ | skip
      exact ⟨(unhide hF).step rfl rfl, keepG (unhide f5) (by decide) (by decide), keepG (unhide f6) (by decide) (by decide), keepL (unhide f7) (by decide), keepL (unhide f8) (by decide), (unhide HB).congr (fun k => by rcases k with _ | _ | _ | _ | k <;> simp [EAsh])⟩
    refine StepsR.cons 6 rfl ?_ ?_
    · intro L us W hi hdep hR Kx hNx
      have hF := hide hR.1
      have f5 := hide hR.2.1
      have f6 := hide hR.2.2.1
      have f7 := hide hR.2.2.2.1
      have f8 := hide hR.2.2.2.2.1
      have hB := hR.2.2.2.2.2
      clear hR
      clear hdep
      have HB := hide hB
      clear hB
      simp only [fillA, Act.put, List.setIfInBounds_toArray, List.set_cons_zero, List.set_cons_succ] at hNx ⊢
      rw [if_pos (by rfl)]
      have A1 := hide ((unhide HB).made 2 #[.int .i64 0, .int .i64 0] 76)
      go_simp
      first | refine hNx _ _ ?_ | skip
      have nst : L 7 = false := notL (unhide f7) hi
      exact ⟨(unhide hF).stepO rfl, newG, keepG (unhide f6) (by decide) (by decide), keepL (unhide f7) (by decide), keepL (unhide f8) (by decide), (unhide A1).congr (fun k => by rcases k with _ | _ | _ | _ | k <;> simp [EAsh, *])⟩
    refine StepsR.cons 7 rfl ?_ ?_
    · intro L us W hi hdep hR Kx hNx
      have hF := hide hR.1
      have f5 := hide hR.2.1
      have f6 := hide hR.2.2.1
      have f7 := hide hR.2.2.2.1
      have f8 := hide hR.2.2.2.2.1
      have hB := hR.2.2.2.2.2
      clear hR
      clear hdep
      have HB := hide hB
      clear hB
      simp only [fillA, Act.put, List.setIfInBounds_toArray, List.set_cons_zero, List.set_cons_succ] at hNx ⊢
      rw [if_pos (by rfl)]
      have A1 := hide ((unhide HB).made 3 #[.int .i64 0, .int .i64 0] 76)
      go_simp
      first | refine hNx _ _ ?_ | skip
      have nst : L 8 = false := notL (unhide f8) hi
      exact ⟨(unhide hF).stepO rfl, keepG (unhide f5) (by decide) (by decide), newG, keepL (unhide f7) (by decide), keepL (unhide f8) (by decide), (unhide A1).congr (fun k => by rcases k with _ | _ | _ | _ | k <;> simp [EAsh, *])⟩
    refine StepsR.cons 8 rfl ?_ ?_
    · intro L us W hi hdep hR Kx hNx
      have hF := hide hR.1
      have f5 := hide hR.2.1
      have f6 := hide hR.2.2.1
      have f7 := hide hR.2.2.2.1
      have f8 := hide hR.2.2.2.2.1
      have hB := hR.2.2.2.2.2
      clear hR
      have d2 : L 2 = true := hdep 2 (by kernel_rfl)
      have d5 : L 5 = true := hdep 5 (by kernel_rfl)
      clear hdep
      have hE : EAsh ax ay au av ak ad cx cy cu cv ck cd p q w L us 2 = some ((gOf (us 5)), [.int .i64 0, .int .i64 0]) := by simp [EAsh, *]
      have e9 : us 9 = vV p q := (unhide hF).get (k := 2) rfl d2
      have e5 := unhide f5 d5
      have hO := hB.ownV hE
      have c0 := hO.cell (i := 0) rfl
      have c1 := hO.cell (i := 1) rfl
      have z0 := hO.frozen 0
      have z1 := hO.frozen 1
      clear hO
      have HB := hide hB
      clear hB
      have HE := hide hE
      clear hE
      simp only [fillA, Act.put, List.setIfInBounds_toArray, List.set_cons_zero, List.set_cons_succ] at hNx ⊢
      simp only [e9] at hNx ⊢
      rw [e5] at hNx ⊢
      clear e9 e5
      rw [if_pos (by rfl)]
      have A1 := hide (((unhide HB).set (k := 2) (g := (gOf (us 5))) (vs := [.int .i64 0, .int .i64 0]) (unhide HE) 0 (.int .i64 p) (by simp)).set (k := 2) (g := (gOf (us 5))) (vs := [.int .i64 p, .int .i64 0]) (by simp) 1 (.int .i64 q) (by simp))
      go_simp
      first | refine hNx undef _ ?_ | skip
      exact ⟨(unhide hF).stepN rfl, keepGN (unhide f5) (by decide), keepGN (unhide f6) (by decide), newL d5 (by decide), keepL (unhide f8) (by decide), (unhide A1).congr (fun k => by rcases k with _ | _ | _ | _ | k <;> simp [EAsh, *])⟩
    refine StepsR.cons 9 rfl ?_ ?_
    · intro L us W hi hdep hR Kx hNx
      have hF := hide hR.1
      have f5 := hide hR.2.1
      have f6 := hide hR.2.2.1
      have f7 := hide hR.2.2.2.1
      have f8 := hide hR.2.2.2.2.1
      have hB := hR.2.2.2.2.2
      clear hR
      have d4 : L 4 = true := hdep 4 (by kernel_rfl)
      have d6 : L 6 = true := hdep 6 (by kernel_rfl)
      clear hdep
      have hE : EAsh ax ay au av ak ad cx cy cu cv ck cd p q w L us 3 = some ((gOf (us 6)), [.int .i64 0, .int .i64 0]) := by simp [EAsh, *]
      have e11 : us 11 = vV au av := (unhide hF).get (k := 4) rfl d4
      have e6 := unhide f6 d6
      have hO := hB.ownV hE
      have c0 := hO.cell (i := 0) rfl
      have c1 := hO.cell (i := 1) rfl
      have z0 := hO.frozen 0
      have z1 := hO.frozen 1
      clear hO
      have HB := hide hB
      clear hB
      have HE := hide hE
      clear hE
      simp only [fillA, Act.put, List.setIfInBounds_toArray, List.set_cons_zero, List.set_cons_succ] at hNx ⊢
      simp only [e11] at hNx ⊢
      rw [e6] at hNx ⊢
      clear e11 e6
      rw [if_pos (by rfl)]
      have A1 := hide (((unhide HB).set (k := 3) (g := (gOf (us 6))) (vs := [.int .i64 0, .int .i64 0]) (unhide HE) 0 (.int .i64 au) (by simp)).set (k := 3) (g := (gOf (us 6))) (vs := [.int .i64 au, .int .i64 0]) (by simp) 1 (.int .i64 av) (by simp))
      go_simp
      first | refine hNx undef _ ?_ | skip
      exact ⟨(unhide hF).stepN rfl, keepGN (unhide f5) (by decide), keepGN (unhide f6) (by decide), keepL (unhide f7) (by decide), newL d6 (by decide), (unhide A1).congr (fun k => by rcases k with _ | _ | _ | _ | k <;> simp [EAsh, *])⟩
    exact StepsR.nil
  · intro L us W hL hR
    have hF := hide hR.1
    have f5 := hide hR.2.1
    have f6 := hide hR.2.2.1
    have f7 := hide hR.2.2.2.1
    have f8 := hide hR.2.2.2.2.1
    have hB := hR.2.2.2.2.2
    clear hR
    have l5 := hL 5 (by decide)
    have l6 := hL 6 (by decide)
    have l7 := hL 7 (by decide)
    have l8 := hL 8 (by decide)
    have hE0 : EAsh ax ay au av ak ad cx cy cu cv ck cd p q w L us 0 = some (w.heap.size, [.int .i64 ax, .int .i64 ay, .int .i64 au, .int .i64 av, .int .i64 ak, .int .i64 ad]) := by simp [EAsh]
    have hO0 := hB.ownV hE0
    have hE1 : EAsh ax ay au av ak ad cx cy cu cv ck cd p q w L us 1 = some (w.heap.size + 1, [.int .i64 cx, .int .i64 cy, .int .i64 cu, .int .i64 cv, .int .i64 ck, .int .i64 cd]) := by simp [EAsh]
    have hO1 := hB.ownV hE1
    have hE2 : EAsh ax ay au av ak ad cx cy cu cv ck cd p q w L us 2 = some ((gOf (us 5)), [.int .i64 p, .int .i64 q]) := by simp [EAsh, *]
    have hO2 := hB.ownV hE2
    have hE3 : EAsh ax ay au av ak ad cx cy cu cv ck cd p q w L us 3 = some ((gOf (us 6)), [.int .i64 au, .int .i64 av]) := by simp [EAsh, *]
    have hO3 := hB.ownV hE3
    have hg2 := (hB.own 2 _ _ hE2).1
    have ha2_0 := hB.apart 2 0 _ _ _ _ hE2 hE0 (by decide)
    have ha2_1 := hB.apart 2 1 _ _ _ _ hE2 hE1 (by decide)
    have hg3 := (hB.own 3 _ _ hE3).1
    have ha3_0 := hB.apart 3 0 _ _ _ _ hE3 hE0 (by decide)
    have ha3_1 := hB.apart 3 1 _ _ _ _ hE3 hE1 (by decide)
    have ha3_2 := hB.apart 3 2 _ _ _ _ hE3 hE2 (by decide)
    clear hE0 hE1 hE2 hE3
    have HA : Hid (Bk w W (XAsh ax ay au av ak ad cx cy cu cv ck cd p q w (gOf (us 5)) (gOf (us 6)))) := hide (hB.congr (fun k => by rcases k with _ | _ | _ | _ | k <;> simp [EAsh, XAsh, *]))
    have f0 : us 7 = vShip ax ay au av ak ad := (unhide hF).get (k := 0) rfl (hL 0 (by decide))
    have f1 : us 8 = vShip cx cy cu cv ck cd := (unhide hF).get (k := 1) rfl (hL 1 (by decide))
    have f2 : us 9 = vV p q := (unhide hF).get (k := 2) rfl (hL 2 (by decide))
    have f3 : us 10 = vShip ax ay au av ak ad := (unhide hF).get (k := 3) rfl (hL 3 (by decide))
    have f4 : us 11 = vV au av := (unhide hF).get (k := 4) rfl (hL 4 (by decide))
    replace f5 := unhide f5 (hL 5 (by decide))
    replace f6 := unhide f6 (hL 6 (by decide))
    have HW := hide hB.below
    clear hB hL l5 l6 l7 l8
    simp only [fillA, Act.put, List.setIfInBounds_toArray, List.set_cons_zero, List.set_cons_succ]
    simp only [f0, f1, f2, f3, f4]
    rw [f5]
    rw [f6]
    clear hF f0 f1 f2 f3 f4 f5 f6 f7 f8
    generalize gOf (us 5) = g5 at *
    generalize gOf (us 6) = g6 at *
    clear us L
    clear hO0 hO1 hO2 hO3 hg2 hg3 ha2_0 ha2_1 ha3_0 ha3_1 ha3_2 HW HBe HWa HB
    cases hd : decide (0 < d)
    · rw [hd] at HV
      go_wp2_with fail
      have HB0 : Hid (∀ us, Bk w _ (EAsf ax ay au av ak ad cx cy cu cv ck cd p q k d b g5 g6 w (fun _ => false) us)) := hide (fun us => ((unhide HA)).congr (fun k => by rcases k with _ | _ | _ | _ | k <;> simp [EAsf, XAsh]))
      refine wp_region_slots [12, 13, 14, 15, 16, 17, 18, 19, 20, 21, 22, 23, 24, 4] (RAsf ax ay au av ak ad cx cy cu cv ck cd p q k d b g5 g6 w) (by kernel_rfl) (by kernel_rfl) (by decide) (by kernel_rfl) ?_ ?_ ?_
      · intro us
        exact ⟨facts_start us _, (unhide HB0 us).drew⟩
      · clear HB0
        refine StepsR.cons 1 rfl ?_ ?_
        · intro L us W hi hdep hR Kx hNx
          have hF := hide hR.1
          have hB := hR.2
          clear hR
          clear hdep
          have hE : EAsf ax ay au av ak ad cx cy cu cv ck cd p q k d b g5 g6 w L us 2 = some (g5, [.int .i64 p, .int .i64 q]) := by simp [EAsf]
          have hO := hB.ownV hE
          have c0 := hO.cell (i := 0) rfl
          have c1 := hO.cell (i := 1) rfl
          clear hO
          have HB := hide hB
          clear hB
          have HE := hide hE
          clear hE
          simp only [fillA, Act.put, List.setIfInBounds_toArray, List.set_cons_zero, List.set_cons_succ] at hNx ⊢
          rw [if_pos (by rfl)]
          go_simp
          first | refine hNx _ _ ?_ | skip
          exact ⟨(unhide hF).step rfl rfl, (unhide HB).congr (fun k => by rcases k with _ | _ | _ | _ | k <;> simp [EAsf])⟩
        refine StepsR.cons 2 rfl ?_ ?_
        · intro L us W hi hdep hR Kx hNx
          have hF := hide hR.1
          have hB := hR.2
          clear hR
          clear hdep
          have hE : EAsf ax ay au av ak ad cx cy cu cv ck cd p q k d b g5 g6 w L us 3 = some (g6, [.int .i64 au, .int .i64 av]) := by simp [EAsf]
          have hO := hB.ownV hE
          have c0 := hO.cell (i := 0) rfl
          have c1 := hO.cell (i := 1) rfl
          clear hO
          have HB := hide hB
          clear hB
          have HE := hide hE
          clear hE
          simp only [fillA, Act.put, List.setIfInBounds_toArray, List.set_cons_zero, List.set_cons_succ] at hNx ⊢
          rw [if_pos (by rfl)]
          go_simp
          first | refine hNx _ _ ?_ | skip
          exact ⟨(unhide hF).step rfl rfl, (unhide HB).congr (fun k => by rcases k with _ | _ | _ | _ | k <;> simp [EAsf])⟩
        refine StepsR.cons 3 rfl ?_ ?_
        · intro L us W hi hdep hR Kx hNx
          have hF := hide hR.1
          have hB := hR.2
          clear hR
          have d0 : L 0 = true := hdep 0 (by kernel_rfl)
          have d1 : L 1 = true := hdep 1 (by kernel_rfl)
          clear hdep
          have e12 : us 12 = vV p q := (unhide hF).get (k := 0) rfl d0
          have e13 : us 13 = vV au av := (unhide hF).get (k := 1) rfl d1
          have HB := hide hB
          clear hB
          simp only [fillA, Act.put, List.setIfInBounds_toArray, List.set_cons_zero, List.set_cons_succ] at hNx ⊢
          simp only [e12, e13] at hNx ⊢
          clear e12 e13
          rw [if_pos (by rfl)]
          have HC := hide (unhide HDo W)
          go_simp
          refine (unhide HC).mono ?_
          rintro e W' ⟨rfl, hb⟩
          replace HB := hide ((unhide HB).step hb)
          clear hb HC
          go_wp2_with fail
          first | refine hNx _ _ ?_ | skip
          exact ⟨(unhide hF).step rfl rfl, (unhide HB).congr (fun k => by rcases k with _ | _ | _ | _ | k <;> simp [EAsf])⟩
        refine StepsR.cons 4 rfl ?_ ?_
        · intro L us W hi hdep hR Kx hNx
          have hF := hide hR.1
          have hB := hR.2
          clear hR
          have d2 : L 2 = true := hdep 2 (by kernel_rfl)
          clear hdep
          have e14 : us 14 = .int .i64 d := (unhide hF).get (k := 2) rfl d2
          have HB := hide hB
          clear hB
          simp only [fillA, Act.put, List.setIfInBounds_toArray, List.set_cons_zero, List.set_cons_succ] at hNx ⊢
          simp only [e14] at hNx ⊢
          clear e14
          rw [if_pos (by rfl)]
          go_simp
          first | refine hNx _ _ ?_ | skip
          exact ⟨(unhide hF).step rfl rfl, (unhide HB).congr (fun k => by rcases k with _ | _ | _ | _ | k <;> simp [EAsf])⟩
        refine StepsR.cons 5 rfl ?_ ?_
        · intro L us W hi hdep hR Kx hNx
          have hF := hide hR.1
          have hB := hR.2
          clear hR
          have d3 : L 3 = true := hdep 3 (by kernel_rfl)
          clear hdep
          have e15 : us 15 = .bool false := (unhide hF).get (k := 3) rfl d3
          have HB := hide hB
          clear hB
          simp only [fillA, Act.put, List.setIfInBounds_toArray, List.set_cons_zero, List.set_cons_succ] at hNx ⊢
          simp only [e15] at hNx ⊢
          clear e15
          rw [if_pos (by rfl)]
          go_simp
          first | refine hNx _ _ ?_ | skip
          exact ⟨(unhide hF).step rfl rfl, (unhide HB).congr (fun k => by rcases k with _ | _ | _ | _ | k <;> simp [EAsf])⟩
        refine StepsR.cons 6 rfl ?_ ?_
        · intro L us W hi hdep hR Kx hNx
          have hF := hide hR.1
          have hB := hR.2
          clear hR
          have d4 : L 4 = true := hdep 4 (by kernel_rfl)
          clear hdep
          have e16 : us 16 = .bool false := (unhide hF).get (k := 4) rfl d4
          have HB := hide hB
          clear hB
          simp only [fillA, Act.put, List.setIfInBounds_toArray, List.set_cons_zero, List.set_cons_succ] at hNx ⊢
          simp only [e16] at hNx ⊢
          clear e16
          refine ifn (by rfl) ?_
          first | refine hNx _ _ ?_ | skip
          exact ⟨(unhide hF).step rfl rfl, (unhide HB).congr (fun k => by rcases k with _ | _ | _ | _ | k <;> simp [EAsf])⟩
        refine StepsR.cons 7 rfl ?_ ?_
        · intro L us W hi hdep hR Kx hNx
          have hF := hide hR.1
          have hB := hR.2
          clear hR
          have d4 : L 4 = true := hdep 4 (by kernel_rfl)
          clear hdep
          have e16 : us 16 = .bool false := (unhide hF).get (k := 4) rfl d4
          have HB := hide hB
          clear hB
          simp only [fillA, Act.put, List.setIfInBounds_toArray, List.set_cons_zero, List.set_cons_succ] at hNx ⊢
          simp only [e16] at hNx ⊢
          clear e16
          refine ifn (by rfl) ?_
          first | refine hNx _ _ ?_ | skip
          exact ⟨(unhide hF).step rfl rfl, (unhide HB).congr (fun k => by rcases k with _ | _ | _ | _ | k <;> simp [EAsf])⟩
        refine StepsR.cons 8 rfl ?_ ?_
        · intro L us W hi hdep hR Kx hNx
          have hF := hide hR.1
          have hB := hR.2
          clear hR
          have d4 : L 4 = true := hdep 4 (by kernel_rfl)
          clear hdep
          have e16 : us 16 = .bool false := (unhide hF).get (k := 4) rfl d4
          have HB := hide hB
          clear hB
          simp only [fillA, Act.put, List.setIfInBounds_toArray, List.set_cons_zero, List.set_cons_succ] at hNx ⊢
          simp only [e16] at hNx ⊢
          clear e16
          refine ifn (by rfl) ?_
          first | refine hNx _ _ ?_ | skip
          exact ⟨(unhide hF).step rfl rfl, (unhide HB).congr (fun k => by rcases k with _ | _ | _ | _ | k <;> simp [EAsf])⟩
        refine StepsR.cons 9 rfl ?_ ?_
        · intro L us W hi hdep hR Kx hNx
          have hF := hide hR.1
          have hB := hR.2
          clear hR
          have d4 : L 4 = true := hdep 4 (by kernel_rfl)
          clear hdep
          have e16 : us 16 = .bool false := (unhide hF).get (k := 4) rfl d4
          have HB := hide hB
          clear hB
          simp only [fillA, Act.put, List.setIfInBounds_toArray, List.set_cons_zero, List.set_cons_succ] at hNx ⊢
          simp only [e16] at hNx ⊢
          clear e16
          refine ifn (by rfl) ?_
          first | refine hNx _ _ ?_ | skip
          exact ⟨(unhide hF).step rfl rfl, (unhide HB).congr (fun k => by rcases k with _ | _ | _ | _ | k <;> simp [EAsf])⟩
        refine StepsR.cons 10 rfl ?_ ?_
        · intro L us W hi hdep hR Kx hNx
          have hF := hide hR.1
          have hB := hR.2
          clear hR
          have d4 : L 4 = true := hdep 4 (by kernel_rfl)
          clear hdep
          have e16 : us 16 = .bool false := (unhide hF).get (k := 4) rfl d4
          have HB := hide hB
          clear hB
          simp only [fillA, Act.put, List.setIfInBounds_toArray, List.set_cons_zero, List.set_cons_succ] at hNx ⊢
          simp only [e16] at hNx ⊢
          clear e16
          refine ifn (by rfl) ?_
          first | refine hNx _ _ ?_ | skip
          exact ⟨(unhide hF).step rfl rfl, (unhide HB).congr (fun k => by rcases k with _ | _ | _ | _ | k <;> simp [EAsf])⟩
        refine StepsR.cons 11 rfl ?_ ?_
        · intro L us W hi hdep hR Kx hNx
          have hF := hide hR.1
          have hB := hR.2
          clear hR
          have d4 : L 4 = true := hdep 4 (by kernel_rfl)
          clear hdep
          have e16 : us 16 = .bool false := (unhide hF).get (k := 4) rfl d4
          have HB := hide hB
          clear hB
          simp only [fillA, Act.put, List.setIfInBounds_toArray, List.set_cons_zero, List.set_cons_succ] at hNx ⊢
          simp only [e16] at hNx ⊢
          clear e16
          refine ifn (by rfl) ?_
          first | refine hNx _ _ ?_ | skip
          exact ⟨(unhide hF).step rfl rfl, (unhide HB).congr (fun k => by rcases k with _ | _ | _ | _ | k <;> simp [EAsf])⟩
        refine StepsR.cons 12 rfl ?_ ?_
        · intro L us W hi hdep hR Kx hNx
          have hF := hide hR.1
          have hB := hR.2
          clear hR
          have d4 : L 4 = true := hdep 4 (by kernel_rfl)
          clear hdep
          have e16 : us 16 = .bool false := (unhide hF).get (k := 4) rfl d4
          have HB := hide hB
          clear hB
          simp only [fillA, Act.put, List.setIfInBounds_toArray, List.set_cons_zero, List.set_cons_succ] at hNx ⊢
          simp only [e16] at hNx ⊢
          clear e16
          refine ifn (by rfl) ?_
          first | refine hNx _ _ ?_ | skip
          exact ⟨(unhide hF).step rfl rfl, (unhide HB).congr (fun k => by rcases k with _ | _ | _ | _ | k <;> simp [EAsf])⟩
        refine StepsR.cons 13 rfl ?_ ?_
        · intro L us W hi hdep hR Kx hNx
          have hF := hide hR.1
          have hB := hR.2
          clear hR
          have d4 : L 4 = true := hdep 4 (by kernel_rfl)
          have d11 : L 11 = true := hdep 11 (by kernel_rfl)
          clear hdep
          have e16 : us 16 = .bool false := (unhide hF).get (k := 4) rfl d4
          have e23 : us 23 = undef := (unhide hF).get (k := 11) rfl d11
          have HB := hide hB
          clear hB
          simp only [fillA, Act.put, List.setIfInBounds_toArray, List.set_cons_zero, List.set_cons_succ] at hNx ⊢
          simp only [e16, e23] at hNx ⊢
          clear e16 e23
          rw [if_pos (by rfl)]
          go_simp
          first | refine hNx _ _ ?_ | skip
          exact ⟨(unhide hF).step rfl rfl, (unhide HB).congr (fun k => by rcases k with _ | _ | _ | _ | k <;> simp [EAsf])⟩
        refine StepsR.cons 14 rfl ?_ ?_
        · intro L us W hi hdep hR Kx hNx
          have hF := hide hR.1
          have hB := hR.2
          clear hR
          have d12 : L 12 = true := hdep 12 (by kernel_rfl)
          clear hdep
          have e24 : us 24 = .bool false := (unhide hF).get (k := 12) rfl d12
          have HB := hide hB
          clear hB
          simp only [fillA, Act.put, List.setIfInBounds_toArray, List.set_cons_zero, List.set_cons_succ] at hNx ⊢
          simp only [e24] at hNx ⊢
          clear e24
          rw [if_pos (by rfl)]
          go_simp
          first | refine hNx _ _ ?_ | skip
          exact ⟨(unhide hF).step rfl rfl, (unhide HB).congr (fun k => by rcases k with _ | _ | _ | _ | k <;> simp [EAsf])⟩
        exact StepsR.nil
      · intro L us W hL hR
        have hF := hide hR.1
        have hB := hR.2
        clear hR
        have hE0 : EAsf ax ay au av ak ad cx cy cu cv ck cd p q k d b g5 g6 w L us 0 = some (w.heap.size, [.int .i64 ax, .int .i64 ay, .int .i64 au, .int .i64 av, .int .i64 ak, .int .i64 ad]) := by simp [EAsf]
        have hO0 := hB.ownV hE0
        have hE1 : EAsf ax ay au av ak ad cx cy cu cv ck cd p q k d b g5 g6 w L us 1 = some (w.heap.size + 1, [.int .i64 cx, .int .i64 cy, .int .i64 cu, .int .i64 cv, .int .i64 ck, .int .i64 cd]) := by simp [EAsf]
        have hO1 := hB.ownV hE1
        have hE2 : EAsf ax ay au av ak ad cx cy cu cv ck cd p q k d b g5 g6 w L us 2 = some (g5, [.int .i64 p, .int .i64 q]) := by simp [EAsf]
        have hO2 := hB.ownV hE2
        have hE3 : EAsf ax ay au av ak ad cx cy cu cv ck cd p q k d b g5 g6 w L us 3 = some (g6, [.int .i64 au, .int .i64 av]) := by simp [EAsf]
        have hO3 := hB.ownV hE3
        clear hE0 hE1 hE2 hE3
        have HA : Hid (Bk w W (XAsf ax ay au av ak ad cx cy cu cv ck cd p q k d b g5 g6 w)) := hide (hB.congr (fun k => by rcases k with _ | _ | _ | _ | k <;> simp [EAsf, XAsf]))
        have f0 : us 12 = vV p q := (unhide hF).get (k := 0) rfl (hL 0 (by decide))
        have f1 : us 13 = vV au av := (unhide hF).get (k := 1) rfl (hL 1 (by decide))
        have f2 : us 14 = .int .i64 d := (unhide hF).get (k := 2) rfl (hL 2 (by decide))
        have f3 : us 15 = .bool false := (unhide hF).get (k := 3) rfl (hL 3 (by decide))
        have f4 : us 16 = .bool false := (unhide hF).get (k := 4) rfl (hL 4 (by decide))
        have f5 : us 17 = undef := (unhide hF).get (k := 5) rfl (hL 5 (by decide))
        have f6 : us 18 = undef := (unhide hF).get (k := 6) rfl (hL 6 (by decide))
        have f7 : us 19 = undef := (unhide hF).get (k := 7) rfl (hL 7 (by decide))
        have f8 : us 20 = undef := (unhide hF).get (k := 8) rfl (hL 8 (by decide))
        have f9 : us 21 = undef := (unhide hF).get (k := 9) rfl (hL 9 (by decide))
        have f10 : us 22 = undef := (unhide hF).get (k := 10) rfl (hL 10 (by decide))
        have f11 : us 23 = undef := (unhide hF).get (k := 11) rfl (hL 11 (by decide))
        have f12 : us 24 = .bool false := (unhide hF).get (k := 12) rfl (hL 12 (by decide))
        have f13 : us 4 = .bool false := (unhide hF).get (k := 13) rfl (hL 13 (by decide))
        have HW := hide hB.below
        clear hB hL
        simp only [fillA, Act.put, List.setIfInBounds_toArray, List.set_cons_zero, List.set_cons_succ]
        simp only [f0, f1, f2, f3, f4, f5, f6, f7, f8, f9, f10, f11, f12, f13]
        clear hF f0 f1 f2 f3 f4 f5 f6 f7 f8 f9 f10 f11 f12 f13
        clear us L
        clear hO0 hO1 hO2 hO3 HA HCr HDo HLe
        go_wp2
        go_ret
        exact ⟨ret_bool (by rw [unhide HT, unhide HV]; rfl), unhide HW⟩
    · rw [hd] at HV
      go_wp2_with fail
      have HB0 : Hid (∀ us, Bk w _ (EAst ax ay au av ak ad cx cy cu cv ck cd p q k d b g5 g6 w (fun _ => false) us)) := hide (fun us => ((unhide HA)).congr (fun k => by rcases k with _ | _ | _ | _ | k <;> simp [EAst, XAsh]))
      refine wp_region_slots [12, 13, 14, 15, 16, 17, 18, 19, 20, 21, 22, 23, 24, 4] (RAst ax ay au av ak ad cx cy cu cv ck cd p q k d b g5 g6 w) (by kernel_rfl) (by kernel_rfl) (by decide) (by kernel_rfl) ?_ ?_ ?_
      · intro us
        exact ⟨facts_start us _, (unhide HB0 us).drew⟩
      · clear HB0
        refine StepsR.cons 1 rfl ?_ ?_
        · intro L us W hi hdep hR Kx hNx
          have hF := hide hR.1
          have hB := hR.2
          clear hR
          clear hdep
          have hE : EAst ax ay au av ak ad cx cy cu cv ck cd p q k d b g5 g6 w L us 2 = some (g5, [.int .i64 p, .int .i64 q]) := by simp [EAst]
          have hO := hB.ownV hE
          have c0 := hO.cell (i := 0) rfl
          have c1 := hO.cell (i := 1) rfl
          clear hO
          have HB := hide hB
          clear hB
          have HE := hide hE
          clear hE
          simp only [fillA, Act.put, List.setIfInBounds_toArray, List.set_cons_zero, List.set_cons_succ] at hNx ⊢
          rw [if_pos (by rfl)]
          go_simp
          first | refine hNx _ _ ?_ | skip
          exact ⟨(unhide hF).step rfl rfl, (unhide HB).congr (fun k => by rcases k with _ | _ | _ | _ | k <;> simp [EAst])⟩
        refine StepsR.cons 2 rfl ?_ ?_
        · intro L us W hi hdep hR Kx hNx
          have hF := hide hR.1
          have hB := hR.2
          clear hR
          clear hdep
          have hE : EAst ax ay au av ak ad cx cy cu cv ck cd p q k d b g5 g6 w L us 3 = some (g6, [.int .i64 au, .int .i64 av]) := by simp [EAst]
          have hO := hB.ownV hE
          have c0 := hO.cell (i := 0) rfl
          have c1 := hO.cell (i := 1) rfl
          clear hO
          have HB := hide hB
          clear hB
          have HE := hide hE
          clear hE
          simp only [fillA, Act.put, List.setIfInBounds_toArray, List.set_cons_zero, List.set_cons_succ] at hNx ⊢
          rw [if_pos (by rfl)]
          go_simp
          first | refine hNx _ _ ?_ | skip
          exact ⟨(unhide hF).step rfl rfl, (unhide HB).congr (fun k => by rcases k with _ | _ | _ | _ | k <;> simp [EAst])⟩
        refine StepsR.cons 3 rfl ?_ ?_
        · intro L us W hi hdep hR Kx hNx
          have hF := hide hR.1
          have hB := hR.2
          clear hR
          have d0 : L 0 = true := hdep 0 (by kernel_rfl)
          have d1 : L 1 = true := hdep 1 (by kernel_rfl)
          clear hdep
          have e12 : us 12 = vV p q := (unhide hF).get (k := 0) rfl d0
          have e13 : us 13 = vV au av := (unhide hF).get (k := 1) rfl d1
          have HB := hide hB
          clear hB
          simp only [fillA, Act.put, List.setIfInBounds_toArray, List.set_cons_zero, List.set_cons_succ] at hNx ⊢
          simp only [e12, e13] at hNx ⊢
          clear e12 e13
          rw [if_pos (by rfl)]
          have HC := hide (unhide HDo W)
          go_simp
          refine (unhide HC).mono ?_
          rintro e W' ⟨rfl, hb⟩
          replace HB := hide ((unhide HB).step hb)
          clear hb HC
          go_wp2_with fail
          first | refine hNx _ _ ?_ | skip
          exact ⟨(unhide hF).step rfl rfl, (unhide HB).congr (fun k => by rcases k with _ | _ | _ | _ | k <;> simp [EAst])⟩
        refine StepsR.cons 4 rfl ?_ ?_
        · intro L us W hi hdep hR Kx hNx
          have hF := hide hR.1
          have hB := hR.2
          clear hR
          have d2 : L 2 = true := hdep 2 (by kernel_rfl)
          clear hdep
          have e14 : us 14 = .int .i64 d := (unhide hF).get (k := 2) rfl d2
          have HB := hide hB
          clear hB
          simp only [fillA, Act.put, List.setIfInBounds_toArray, List.set_cons_zero, List.set_cons_succ] at hNx ⊢
          simp only [e14] at hNx ⊢
          clear e14
          rw [if_pos (by rfl)]
          go_simp
          first | refine hNx _ _ ?_ | skip
          exact ⟨(unhide hF).step rfl rfl, (unhide HB).congr (fun k => by rcases k with _ | _ | _ | _ | k <;> simp [EAst])⟩
        refine StepsR.cons 5 rfl ?_ ?_
        · intro L us W hi hdep hR Kx hNx
          have hF := hide hR.1
          have hB := hR.2
          clear hR
          have d3 : L 3 = true := hdep 3 (by kernel_rfl)
          clear hdep
          have e15 : us 15 = .bool true := (unhide hF).get (k := 3) rfl d3
          have HB := hide hB
          clear hB
          simp only [fillA, Act.put, List.setIfInBounds_toArray, List.set_cons_zero, List.set_cons_succ] at hNx ⊢
          simp only [e15] at hNx ⊢
          clear e15
          rw [if_pos (by rfl)]
          go_simp
          first | refine hNx _ _ ?_ | skip
          exact ⟨(unhide hF).step rfl rfl, (unhide HB).congr (fun k => by rcases k with _ | _ | _ | _ | k <;> simp [EAst])⟩
        refine StepsR.cons 6 rfl ?_ ?_
        · intro L us W hi hdep hR Kx hNx
          have hF := hide hR.1
          have hB := hR.2
          clear hR
          have d4 : L 4 = true := hdep 4 (by kernel_rfl)
          clear hdep
          have hE : EAst ax ay au av ak ad cx cy cu cv ck cd p q k d b g5 g6 w L us 2 = some (g5, [.int .i64 p, .int .i64 q]) := by simp [EAst]
          have e16 : us 16 = .bool true := (unhide hF).get (k := 4) rfl d4
          have hO := hB.ownV hE
          have c0 := hO.cell (i := 0) rfl
          have c1 := hO.cell (i := 1) rfl
          clear hO
          have HB := hide hB
          clear hB
          have HE := hide hE
          clear hE
          simp only [fillA, Act.put, List.setIfInBounds_toArray, List.set_cons_zero, List.set_cons_succ] at hNx ⊢
          simp only [e16] at hNx ⊢
          clear e16
          rw [if_pos (by rfl)]
          go_simp
          first | refine hNx _ _ ?_ | skip
          exact ⟨(unhide hF).step rfl rfl, (unhide HB).congr (fun k => by rcases k with _ | _ | _ | _ | k <;> simp [EAst])⟩
        refine StepsR.cons 7 rfl ?_ ?_
        · intro L us W hi hdep hR Kx hNx
          have hF := hide hR.1
          have hB := hR.2
          clear hR
          have d4 : L 4 = true := hdep 4 (by kernel_rfl)
          clear hdep
          have hE : EAst ax ay au av ak ad cx cy cu cv ck cd p q k d b g5 g6 w L us 3 = some (g6, [.int .i64 au, .int .i64 av]) := by simp [EAst]
          have e16 : us 16 = .bool true := (unhide hF).get (k := 4) rfl d4
          have hO := hB.ownV hE
          have c0 := hO.cell (i := 0) rfl
          have c1 := hO.cell (i := 1) rfl
          clear hO
          have HB := hide hB
          clear hB
          have HE := hide hE
          clear hE
          simp only [fillA, Act.put, List.setIfInBounds_toArray, List.set_cons_zero, List.set_cons_succ] at hNx ⊢
          simp only [e16] at hNx ⊢
          clear e16
          rw [if_pos (by rfl)]
          go_simp
          first | refine hNx _ _ ?_ | skip
          exact ⟨(unhide hF).step rfl rfl, (unhide HB).congr (fun k => by rcases k with _ | _ | _ | _ | k <;> simp [EAst])⟩
        refine StepsR.cons 8 rfl ?_ ?_
        · intro L us W hi hdep hR Kx hNx
          have hF := hide hR.1
          have hB := hR.2
          clear hR
          have d4 : L 4 = true := hdep 4 (by kernel_rfl)
          have d5 : L 5 = true := hdep 5 (by kernel_rfl)
          have d6 : L 6 = true := hdep 6 (by kernel_rfl)
          clear hdep
          have e16 : us 16 = .bool true := (unhide hF).get (k := 4) rfl d4
          have e17 : us 17 = vV p q := (unhide hF).get (k := 5) rfl d5
          have e18 : us 18 = vV au av := (unhide hF).get (k := 6) rfl d6
          have HB := hide hB
          clear hB
          simp only [fillA, Act.put, List.setIfInBounds_toArray, List.set_cons_zero, List.set_cons_succ] at hNx ⊢
          simp only [e16, e17, e18] at hNx ⊢
          clear e16 e17 e18
          rw [if_pos (by rfl)]
          have HC := hide (unhide HCr W)
          go_simp
          refine (unhide HC).mono ?_
          rintro e W' ⟨rfl, hb⟩
          replace HB := hide ((unhide HB).step hb)
          clear hb HC
          go_wp2_with fail
          first | refine hNx _ _ ?_ | skip
          exact ⟨(unhide hF).step rfl rfl, (unhide HB).congr (fun k => by rcases k with _ | _ | _ | _ | k <;> simp [EAst])⟩
        refine StepsR.cons 9 rfl ?_ ?_
        · intro L us W hi hdep hR Kx hNx
          have hF := hide hR.1
          have hB := hR.2
          clear hR
          have d4 : L 4 = true := hdep 4 (by kernel_rfl)
          clear hdep
          have hE : EAst ax ay au av ak ad cx cy cu cv ck cd p q k d b g5 g6 w L us 2 = some (g5, [.int .i64 p, .int .i64 q]) := by simp [EAst]
          have e16 : us 16 = .bool true := (unhide hF).get (k := 4) rfl d4
          have hO := hB.ownV hE
          have c0 := hO.cell (i := 0) rfl
          have c1 := hO.cell (i := 1) rfl
          clear hO
          have HB := hide hB
          clear hB
          have HE := hide hE
          clear hE
          simp only [fillA, Act.put, List.setIfInBounds_toArray, List.set_cons_zero, List.set_cons_succ] at hNx ⊢
          simp only [e16] at hNx ⊢
          clear e16
          rw [if_pos (by rfl)]
          go_simp
          first | refine hNx _ _ ?_ | skip
          exact ⟨(unhide hF).step rfl rfl, (unhide HB).congr (fun k => by rcases k with _ | _ | _ | _ | k <;> simp [EAst])⟩
        refine StepsR.cons 10 rfl ?_ ?_
        · intro L us W hi hdep hR Kx hNx
          have hF := hide hR.1
          have hB := hR.2
          clear hR
          have d4 : L 4 = true := hdep 4 (by kernel_rfl)
          clear hdep
          have hE : EAst ax ay au av ak ad cx cy cu cv ck cd p q k d b g5 g6 w L us 3 = some (g6, [.int .i64 au, .int .i64 av]) := by simp [EAst]
          have e16 : us 16 = .bool true := (unhide hF).get (k := 4) rfl d4
          have hO := hB.ownV hE
          have c0 := hO.cell (i := 0) rfl
          have c1 := hO.cell (i := 1) rfl
          clear hO
          have HB := hide hB
          clear hB
          have HE := hide hE
          clear hE
          simp only [fillA, Act.put, List.setIfInBounds_toArray, List.set_cons_zero, List.set_cons_succ] at hNx ⊢
          simp only [e16] at hNx ⊢
          clear e16
          rw [if_pos (by rfl)]
          go_simp
          first | refine hNx _ _ ?_ | skip
          exact ⟨(unhide hF).step rfl rfl, (unhide HB).congr (fun k => by rcases k with _ | _ | _ | _ | k <;> simp [EAst])⟩
        refine StepsR.cons 11 rfl ?_ ?_
        · intro L us W hi hdep hR Kx hNx
          have hF := hide hR.1
          have hB := hR.2
          clear hR
          have d4 : L 4 = true := hdep 4 (by kernel_rfl)
          have d8 : L 8 = true := hdep 8 (by kernel_rfl)
          have d9 : L 9 = true := hdep 9 (by kernel_rfl)
          clear hdep
          have e16 : us 16 = .bool true := (unhide hF).get (k := 4) rfl d4
          have e20 : us 20 = vV p q := (unhide hF).get (k := 8) rfl d8
          have e21 : us 21 = vV au av := (unhide hF).get (k := 9) rfl d9
          have HB := hide hB
          clear hB
          simp only [fillA, Act.put, List.setIfInBounds_toArray, List.set_cons_zero, List.set_cons_succ] at hNx ⊢
          simp only [e16, e20, e21] at hNx ⊢
          clear e16 e20 e21
          rw [if_pos (by rfl)]
          have HC := hide (unhide HDo W)
          go_simp
          refine (unhide HC).mono ?_
          rintro e W' ⟨rfl, hb⟩
          replace HB := hide ((unhide HB).step hb)
          clear hb HC
          go_wp2_with fail
          first | refine hNx _ _ ?_ | skip
          exact ⟨(unhide hF).step rfl rfl, (unhide HB).congr (fun k => by rcases k with _ | _ | _ | _ | k <;> simp [EAst])⟩
        refine StepsR.cons 12 rfl ?_ ?_
        · intro L us W hi hdep hR Kx hNx
          have hF := hide hR.1
          have hB := hR.2
          clear hR
          have d4 : L 4 = true := hdep 4 (by kernel_rfl)
          have d7 : L 7 = true := hdep 7 (by kernel_rfl)
          have d10 : L 10 = true := hdep 10 (by kernel_rfl)
          clear hdep
          have e16 : us 16 = .bool true := (unhide hF).get (k := 4) rfl d4
          have e19 : us 19 = .int .i64 k := (unhide hF).get (k := 7) rfl d7
          have e22 : us 22 = .int .i64 d := (unhide hF).get (k := 10) rfl d10
          have HB := hide hB
          clear hB
          simp only [fillA, Act.put, List.setIfInBounds_toArray, List.set_cons_zero, List.set_cons_succ] at hNx ⊢
          simp only [e16, e19, e22] at hNx ⊢
          clear e16 e19 e22
          rw [if_pos (by rfl)]
          have HC := hide (same_below (unhide HLe W))
          go_simp
          refine (unhide HC).mono ?_
          rintro e W' ⟨rfl, hb⟩
          replace HB := hide ((unhide HB).step hb)
          clear hb HC
          go_wp2_with fail
          first | refine hNx _ _ ?_ | skip
          exact ⟨(unhide hF).step rfl rfl, (unhide HB).congr (fun k => by rcases k with _ | _ | _ | _ | k <;> simp [EAst])⟩
        refine StepsR.cons 13 rfl ?_ ?_
        · intro L us W hi hdep hR Kx hNx
          have hF := hide hR.1
          have hB := hR.2
          clear hR
          have d4 : L 4 = true := hdep 4 (by kernel_rfl)
          have d11 : L 11 = true := hdep 11 (by kernel_rfl)
          clear hdep
          have e16 : us 16 = .bool true := (unhide hF).get (k := 4) rfl d4
          have e23 : us 23 = .bool b := (unhide hF).get (k := 11) rfl d11
          have HB := hide hB
          clear hB
          simp only [fillA, Act.put, List.setIfInBounds_toArray, List.set_cons_zero, List.set_cons_succ] at hNx ⊢
          simp only [e16, e23] at hNx ⊢
          clear e16 e23
          rw [if_pos (by rfl)]
          go_simp
          first | refine hNx _ _ ?_ | skip
          exact ⟨(unhide hF).step rfl rfl, (unhide HB).congr (fun k => by rcases k with _ | _ | _ | _ | k <;> simp [EAst])⟩
        refine StepsR.cons 14 rfl ?_ ?_
        · intro L us W hi hdep hR Kx hNx
          have hF := hide hR.1
          have hB := hR.2
          clear hR
          have d12 : L 12 = true := hdep 12 (by kernel_rfl)
          clear hdep
          have e24 : us 24 = .bool b := (unhide hF).get (k := 12) rfl d12
          have HB := hide hB
          clear hB
          simp only [fillA, Act.put, List.setIfInBounds_toArray, List.set_cons_zero, List.set_cons_succ] at hNx ⊢
          simp only [e24] at hNx ⊢
          clear e24
          rw [if_pos (by rfl)]
          go_simp
          first | refine hNx _ _ ?_ | skip
          exact ⟨(unhide hF).step rfl rfl, (unhide HB).congr (fun k => by rcases k with _ | _ | _ | _ | k <;> simp [EAst])⟩
        exact StepsR.nil
      · intro L us W hL hR
        have hF := hide hR.1
        have hB := hR.2
        clear hR
        have hE0 : EAst ax ay au av ak ad cx cy cu cv ck cd p q k d b g5 g6 w L us 0 = some (w.heap.size, [.int .i64 ax, .int .i64 ay, .int .i64 au, .int .i64 av, .int .i64 ak, .int .i64 ad]) := by simp [EAst]
        have hO0 := hB.ownV hE0
        have hE1 : EAst ax ay au av ak ad cx cy cu cv ck cd p q k d b g5 g6 w L us 1 = some (w.heap.size + 1, [.int .i64 cx, .int .i64 cy, .int .i64 cu, .int .i64 cv, .int .i64 ck, .int .i64 cd]) := by simp [EAst]
        have hO1 := hB.ownV hE1
        have hE2 : EAst ax ay au av ak ad cx cy cu cv ck cd p q k d b g5 g6 w L us 2 = some (g5, [.int .i64 p, .int .i64 q]) := by simp [EAst]
        have hO2 := hB.ownV hE2
        have hE3 : EAst ax ay au av ak ad cx cy cu cv ck cd p q k d b g5 g6 w L us 3 = some (g6, [.int .i64 au, .int .i64 av]) := by simp [EAst]
        have hO3 := hB.ownV hE3
        clear hE0 hE1 hE2 hE3
        have HA : Hid (Bk w W (XAst ax ay au av ak ad cx cy cu cv ck cd p q k d b g5 g6 w)) := hide (hB.congr (fun k => by rcases k with _ | _ | _ | _ | k <;> simp [EAst, XAst]))
        have f0 : us 12 = vV p q := (unhide hF).get (k := 0) rfl (hL 0 (by decide))
        have f1 : us 13 = vV au av := (unhide hF).get (k := 1) rfl (hL 1 (by decide))
        have f2 : us 14 = .int .i64 d := (unhide hF).get (k := 2) rfl (hL 2 (by decide))
        have f3 : us 15 = .bool true := (unhide hF).get (k := 3) rfl (hL 3 (by decide))
        have f4 : us 16 = .bool true := (unhide hF).get (k := 4) rfl (hL 4 (by decide))
        have f5 : us 17 = vV p q := (unhide hF).get (k := 5) rfl (hL 5 (by decide))
        have f6 : us 18 = vV au av := (unhide hF).get (k := 6) rfl (hL 6 (by decide))
        have f7 : us 19 = .int .i64 k := (unhide hF).get (k := 7) rfl (hL 7 (by decide))
        have f8 : us 20 = vV p q := (unhide hF).get (k := 8) rfl (hL 8 (by decide))
        have f9 : us 21 = vV au av := (unhide hF).get (k := 9) rfl (hL 9 (by decide))
        have f10 : us 22 = .int .i64 d := (unhide hF).get (k := 10) rfl (hL 10 (by decide))
        have f11 : us 23 = .bool b := (unhide hF).get (k := 11) rfl (hL 11 (by decide))
        have f12 : us 24 = .bool b := (unhide hF).get (k := 12) rfl (hL 12 (by decide))
        have f13 : us 4 = .bool b := (unhide hF).get (k := 13) rfl (hL 13 (by decide))
        have HW := hide hB.below
        clear hB hL
        simp only [fillA, Act.put, List.setIfInBounds_toArray, List.set_cons_zero, List.set_cons_succ]
        simp only [f0, f1, f2, f3, f4, f5, f6, f7, f8, f9, f10, f11, f12, f13]
        clear hF f0 f1 f2 f3 f4 f5 f6 f7 f8 f9 f10 f11 f12 f13
        clear us L
        clear hO0 hO1 hO2 hO3 HA HCr HDo HLe
        go_wp2
        go_ret
        exact ⟨ret_bool (by rw [unhide HT, unhide HV]; simp), unhide HW⟩

def ERsi (ax ay au av ak ad cx cy cu cv ck cd _p _q _k : Int) (w : World) (_L : Nat → Bool) (_us : Nat → Value) : Nat → Option (Nat × List Value)
  | 0 => some (w.heap.size, [.int .i64 ax, .int .i64 ay, .int .i64 au, .int .i64 av, .int .i64 ak, .int .i64 ad])
  | 1 => some (w.heap.size + 1, [.int .i64 cx, .int .i64 cy, .int .i64 cu, .int .i64 cv, .int .i64 ck, .int .i64 cd])
  | _ => none
def FRsi (ax ay au av ak ad cx cy cu cv ck cd p q k : Int) : FL := [(0, 5, vShip ax ay au av ak ad), (1, 6, vV au av), (2, 7, vShip ax ay au av ak ad), (3, 8, vShip cx cy cu cv ck cd), (4, 9, vV p q), (5, 10, .int .i64 k), (6, 11, .bool (decide (k < 0))), (7, 4, .bool (decide (k < 0)))]
def RRsi (ax ay au av ak ad cx cy cu cv ck cd p q k : Int) (w : World) (L : Nat → Bool) (us : Nat → Value) (W : World) : Prop :=
  Facts L us (FRsi ax ay au av ak ad cx cy cu cv ck cd p q k) ∧ Bk w W (ERsi ax ay au av ak ad cx cy cu cv ck cd p q k w L us)
def XRsi (ax ay au av ak ad cx cy cu cv ck cd _p _q _k : Int) (w : World) : Nat → Option (Nat × List Value)
  | 0 => some (w.heap.size, [.int .i64 ax, .int .i64 ay, .int .i64 au, .int .i64 av, .int .i64 ak, .int .i64 ad])
  | 1 => some (w.heap.size + 1, [.int .i64 cx, .int .i64 cy, .int .i64 cu, .int .i64 cv, .int .i64 ck, .int .i64 cd])
  | _ => none
set_option maxRecDepth 10000 in
set_option maxHeartbeats 3200000 in
theorem specRight_any (ax ay au av ak ad cx cy cu cv ck cd : Int) (w : World) (h1 : shipB ax ay au av ak ad = true) (h2 : shipB cx cy cu cv ck cd = true) :
    Calls Try.prog 68 #[vShip ax ay au av ak ad, vShip cx cy cu cv ck cd] w fun e w' => e = .returned (.bool (rgtB ax ay au av ak ad cx cy cu cv ck cd)) ∧ Below w.heap.size w w' := by
  obtain ⟨ba0, ba1, ba2, ba3, ba4, ba5, ba6, ba7⟩ := shipB_bd h1
  obtain ⟨bc0, bc1, bc2, bc3, bc4, bc5, bc6, bc7⟩ := shipB_bd h2
  have HBe := hide fun W => specBearing_any ax ay au av ak ad cx cy cu cv ck cd W ba0 ba1 ba2 ba3 bc0 bc1 bc2 bc3
  have HWa := hide fun W => specWay_any ax ay au av ak ad W
  obtain ⟨p, ep⟩ : ∃ z, z = cx - ax := ⟨_, rfl⟩
  obtain ⟨q, eq⟩ : ∃ z, z = cy - ay := ⟨_, rfl⟩
  have n1 : p.natAbs ≤ 200000 := by omega
  have n2 : q.natAbs ≤ 200000 := by omega
  have n3 : au.natAbs ≤ 1000 := by omega
  have n4 : av.natAbs ≤ 1000 := by omega
  have HCr := hide fun W => specCross_any au av p q W (Nat.le_trans n3 (by decide)) (Nat.le_trans n4 (by decide)) n1 n2
  obtain ⟨k, ek⟩ : ∃ k, k = au * q - av * p := ⟨_, rfl⟩
  rw [← ek] at HCr
  have HT : Hid (rgtB ax ay au av ak ad cx cy cu cv ck cd = decide (k < 0)) := by show _ = _; unfold rgtB; rw [ek, ep, eq]
  rw [← ep, ← eq] at HBe
  clear ep eq ek n1 n2 n3 n4 h1 h2 ba0 ba1 ba2 ba3 ba4 ba5 ba6 ba7 bc0 bc1 bc2 bc3 bc4 bc5 bc6 bc7
  have HB := hide (bk_two w #[.int .i64 ax, .int .i64 ay, .int .i64 au, .int .i64 av, .int .i64 ak, .int .i64 ad] #[.int .i64 cx, .int .i64 cy, .int .i64 cu, .int .i64 cv, .int .i64 ck, .int .i64 cd] 25 25)
  unfold vShip
  go_enter Try.func68, Try.ntmps68
  go_wp2_with fail
  have HB0 : Hid (∀ us, Bk w _ (ERsi ax ay au av ak ad cx cy cu cv ck cd p q k w (fun _ => false) us)) := hide (fun us => ((unhide HB)).congr (fun k => by rcases k with _ | _ | k <;> simp [ERsi, E2]))
  refine wp_region_slots [5, 6, 7, 8, 9, 10, 11, 4] (RRsi ax ay au av ak ad cx cy cu cv ck cd p q k w) (by kernel_rfl) (by kernel_rfl) (by decide) (by kernel_rfl) ?_ ?_ ?_
  · intro us
    exact ⟨facts_start us _, (unhide HB0 us).drew⟩
  · clear HB0
    refine StepsR.cons 1 rfl ?_ ?_
    · intro L us W hi hdep hR Kx hNx
      have hF := hide hR.1
      have hB := hR.2
      clear hR
      clear hdep
      have hE : ERsi ax ay au av ak ad cx cy cu cv ck cd p q k w L us 0 = some (w.heap.size, [.int .i64 ax, .int .i64 ay, .int .i64 au, .int .i64 av, .int .i64 ak, .int .i64 ad]) := by simp [ERsi]
      have hO := hB.ownV hE
      have c0 := hO.cell (i := 0) rfl
      have c1 := hO.cell (i := 1) rfl
      have c2 := hO.cell (i := 2) rfl
      have c3 := hO.cell (i := 3) rfl
      have c4 := hO.cell (i := 4) rfl
      have c5 := hO.cell (i := 5) rfl
      clear hO
      have HB := hide hB
      clear hB
      have HE := hide hE
      clear hE
      simp only [fillA, Act.put, List.setIfInBounds_toArray, List.set_cons_zero, List.set_cons_succ] at hNx ⊢
      rw [if_pos (by rfl)]
      go_simp
      first | refine hNx _ _ ?_ | skip
      exact ⟨(unhide hF).step rfl rfl, (unhide HB).congr (fun k => by rcases k with _ | _ | k <;> simp [ERsi])⟩
    refine StepsR.cons 2 rfl ?_ ?_
    · intro L us W hi hdep hR Kx hNx
      have hF := hide hR.1
      have hB := hR.2
      clear hR
      have d0 : L 0 = true := hdep 0 (by kernel_rfl)
      clear hdep
      have e5 : us 5 = vShip ax ay au av ak ad := (unhide hF).get (k := 0) rfl d0
      have HB := hide hB
      clear hB
      simp only [fillA, Act.put, List.setIfInBounds_toArray, List.set_cons_zero, List.set_cons_succ] at hNx ⊢
      simp only [e5] at hNx ⊢
      clear e5
      rw [if_pos (by rfl)]
      have HC := hide (unhide HWa W)
      go_simp
      refine (unhide HC).mono ?_
      rintro e W' ⟨rfl, hb⟩
      replace HB := hide ((unhide HB).step hb)
      clear hb HC
      go_wp2_with fail
      first | refine hNx _ _ ?_ | skip
      exact ⟨(unhide hF).step rfl rfl, (unhide HB).congr (fun k => by rcases k with _ | _ | k <;> simp [ERsi])⟩
    refine StepsR.cons 3 rfl ?_ ?_
    · intro L us W hi hdep hR Kx hNx
      have hF := hide hR.1
      have hB := hR.2
      clear hR
      clear hdep
      have hE : ERsi ax ay au av ak ad cx cy cu cv ck cd p q k w L us 0 = some (w.heap.size, [.int .i64 ax, .int .i64 ay, .int .i64 au, .int .i64 av, .int .i64 ak, .int .i64 ad]) := by simp [ERsi]
      have hO := hB.ownV hE
      have c0 := hO.cell (i := 0) rfl
      have c1 := hO.cell (i := 1) rfl
      have c2 := hO.cell (i := 2) rfl
      have c3 := hO.cell (i := 3) rfl
      have c4 := hO.cell (i := 4) rfl
      have c5 := hO.cell (i := 5) rfl
      clear hO
      have HB := hide hB
      clear hB
      have HE := hide hE
      clear hE
      simp only [fillA, Act.put, List.setIfInBounds_toArray, List.set_cons_zero, List.set_cons_succ] at hNx ⊢
      rw [if_pos (by rfl)]
      go_simp
      first | refine hNx _ _ ?_ | skip
      exact ⟨(unhide hF).step rfl rfl, (unhide HB).congr (fun k => by rcases k with _ | _ | k <;> simp [ERsi])⟩
    refine StepsR.cons 4 rfl ?_ ?_
    · intro L us W hi hdep hR Kx hNx
      have hF := hide hR.1
      have hB := hR.2
      clear hR
      clear hdep
      have hE : ERsi ax ay au av ak ad cx cy cu cv ck cd p q k w L us 1 = some (w.heap.size + 1, [.int .i64 cx, .int .i64 cy, .int .i64 cu, .int .i64 cv, .int .i64 ck, .int .i64 cd]) := by simp [ERsi]
      have hO := hB.ownV hE
      have c0 := hO.cell (i := 0) rfl
      have c1 := hO.cell (i := 1) rfl
      have c2 := hO.cell (i := 2) rfl
      have c3 := hO.cell (i := 3) rfl
      have c4 := hO.cell (i := 4) rfl
      have c5 := hO.cell (i := 5) rfl
      clear hO
      have HB := hide hB
      clear hB
      have HE := hide hE
      clear hE
      simp only [fillA, Act.put, List.setIfInBounds_toArray, List.set_cons_zero, List.set_cons_succ] at hNx ⊢
      rw [if_pos (by rfl)]
      go_simp
      first | refine hNx _ _ ?_ | skip
      exact ⟨(unhide hF).step rfl rfl, (unhide HB).congr (fun k => by rcases k with _ | _ | k <;> simp [ERsi])⟩
    refine StepsR.cons 5 rfl ?_ ?_
    · intro L us W hi hdep hR Kx hNx
      have hF := hide hR.1
      have hB := hR.2
      clear hR
      have d2 : L 2 = true := hdep 2 (by kernel_rfl)
      have d3 : L 3 = true := hdep 3 (by kernel_rfl)
      clear hdep
      have e7 : us 7 = vShip ax ay au av ak ad := (unhide hF).get (k := 2) rfl d2
      have e8 : us 8 = vShip cx cy cu cv ck cd := (unhide hF).get (k := 3) rfl d3
      have HB := hide hB
      clear hB
      simp only [fillA, Act.put, List.setIfInBounds_toArray, List.set_cons_zero, List.set_cons_succ] at hNx ⊢
      simp only [e7, e8] at hNx ⊢
      clear e7 e8
      rw [if_pos (by rfl)]
      have HC := hide (unhide HBe W)
      go_simp
      refine (unhide HC).mono ?_
      rintro e W' ⟨rfl, hb⟩
      replace HB := hide ((unhide HB).step hb)
      clear hb HC
      go_wp2_with fail
      first | refine hNx _ _ ?_ | skip
      exact ⟨(unhide hF).step rfl rfl, (unhide HB).congr (fun k => by rcases k with _ | _ | k <;> simp [ERsi])⟩
    refine StepsR.cons 6 rfl ?_ ?_
    · intro L us W hi hdep hR Kx hNx
      have hF := hide hR.1
      have hB := hR.2
      clear hR
      have d1 : L 1 = true := hdep 1 (by kernel_rfl)
      have d4 : L 4 = true := hdep 4 (by kernel_rfl)
      clear hdep
      have e6 : us 6 = vV au av := (unhide hF).get (k := 1) rfl d1
      have e9 : us 9 = vV p q := (unhide hF).get (k := 4) rfl d4
      have HB := hide hB
      clear hB
      simp only [fillA, Act.put, List.setIfInBounds_toArray, List.set_cons_zero, List.set_cons_succ] at hNx ⊢
      simp only [e6, e9] at hNx ⊢
      clear e6 e9
      rw [if_pos (by rfl)]
      have HC := hide (unhide HCr W)
      go_simp
      refine (unhide HC).mono ?_
      rintro e W' ⟨rfl, hb⟩
      replace HB := hide ((unhide HB).step hb)
      clear hb HC
      go_wp2_with fail
      first | refine hNx _ _ ?_ | skip
      exact ⟨(unhide hF).step rfl rfl, (unhide HB).congr (fun k => by rcases k with _ | _ | k <;> simp [ERsi])⟩
    refine StepsR.cons 7 rfl ?_ ?_
    · intro L us W hi hdep hR Kx hNx
      have hF := hide hR.1
      have hB := hR.2
      clear hR
      have d5 : L 5 = true := hdep 5 (by kernel_rfl)
      clear hdep
      have e10 : us 10 = .int .i64 k := (unhide hF).get (k := 5) rfl d5
      have HB := hide hB
      clear hB
      simp only [fillA, Act.put, List.setIfInBounds_toArray, List.set_cons_zero, List.set_cons_succ] at hNx ⊢
      simp only [e10] at hNx ⊢
      clear e10
      rw [if_pos (by rfl)]
      go_simp
      first | refine hNx _ _ ?_ | skip
      exact ⟨(unhide hF).step rfl rfl, (unhide HB).congr (fun k => by rcases k with _ | _ | k <;> simp [ERsi])⟩
    refine StepsR.cons 8 rfl ?_ ?_
    · intro L us W hi hdep hR Kx hNx
      have hF := hide hR.1
      have hB := hR.2
      clear hR
      have d6 : L 6 = true := hdep 6 (by kernel_rfl)
      clear hdep
      have e11 : us 11 = .bool (decide (k < 0)) := (unhide hF).get (k := 6) rfl d6
      have HB := hide hB
      clear hB
      simp only [fillA, Act.put, List.setIfInBounds_toArray, List.set_cons_zero, List.set_cons_succ] at hNx ⊢
      simp only [e11] at hNx ⊢
      clear e11
      rw [if_pos (by rfl)]
      go_simp
      first | refine hNx _ _ ?_ | skip
      exact ⟨(unhide hF).step rfl rfl, (unhide HB).congr (fun k => by rcases k with _ | _ | k <;> simp [ERsi])⟩
    exact StepsR.nil
  · intro L us W hL hR
    have hF := hide hR.1
    have hB := hR.2
    clear hR
    have hE0 : ERsi ax ay au av ak ad cx cy cu cv ck cd p q k w L us 0 = some (w.heap.size, [.int .i64 ax, .int .i64 ay, .int .i64 au, .int .i64 av, .int .i64 ak, .int .i64 ad]) := by simp [ERsi]
    have hO0 := hB.ownV hE0
    have hE1 : ERsi ax ay au av ak ad cx cy cu cv ck cd p q k w L us 1 = some (w.heap.size + 1, [.int .i64 cx, .int .i64 cy, .int .i64 cu, .int .i64 cv, .int .i64 ck, .int .i64 cd]) := by simp [ERsi]
    have hO1 := hB.ownV hE1
    clear hE0 hE1
    have HA : Hid (Bk w W (XRsi ax ay au av ak ad cx cy cu cv ck cd p q k w)) := hide (hB.congr (fun k => by rcases k with _ | _ | k <;> simp [ERsi, XRsi]))
    have f0 : us 5 = vShip ax ay au av ak ad := (unhide hF).get (k := 0) rfl (hL 0 (by decide))
    have f1 : us 6 = vV au av := (unhide hF).get (k := 1) rfl (hL 1 (by decide))
    have f2 : us 7 = vShip ax ay au av ak ad := (unhide hF).get (k := 2) rfl (hL 2 (by decide))
    have f3 : us 8 = vShip cx cy cu cv ck cd := (unhide hF).get (k := 3) rfl (hL 3 (by decide))
    have f4 : us 9 = vV p q := (unhide hF).get (k := 4) rfl (hL 4 (by decide))
    have f5 : us 10 = .int .i64 k := (unhide hF).get (k := 5) rfl (hL 5 (by decide))
    have f6 : us 11 = .bool (decide (k < 0)) := (unhide hF).get (k := 6) rfl (hL 6 (by decide))
    have f7 : us 4 = .bool (decide (k < 0)) := (unhide hF).get (k := 7) rfl (hL 7 (by decide))
    have HW := hide hB.below
    clear hB hL
    simp only [fillA, Act.put, List.setIfInBounds_toArray, List.set_cons_zero, List.set_cons_succ]
    simp only [f0, f1, f2, f3, f4, f5, f6, f7]
    clear hF f0 f1 f2 f3 f4 f5 f6 f7
    clear us L
    clear hO0 hO1 HBe HWa HCr
    go_wp2
    go_ret
    exact ⟨ret_bool (unhide HT).symm, unhide HW⟩


end Go.Proofs.Ytmgcpllkielpkaa

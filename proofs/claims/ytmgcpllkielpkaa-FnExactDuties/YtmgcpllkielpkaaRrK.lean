/- The specification's Duty. Written by wip/mkrrC.py. -/
import Derived.Test.YtmgcpllkielpkaaRrK0
namespace Go.Proofs.Ytmgcpllkielpkaa
open Go.RowKit

def EDs4 (ax ay au av ak ad cx cy cu cv ck cd p q _r _s _d : Int) (g5 : Nat) (w : World) (_L : Nat → Bool) (_us : Nat → Value) : Nat → Option (Nat × List Value)
  | 0 => some (w.heap.size, [.int .i64 ax, .int .i64 ay, .int .i64 au, .int .i64 av, .int .i64 ak, .int .i64 ad])
  | 1 => some (w.heap.size + 1, [.int .i64 cx, .int .i64 cy, .int .i64 cu, .int .i64 cv, .int .i64 ck, .int .i64 cd])
  | 2 => some (g5, [.int .i64 p, .int .i64 q])
  | _ => none
def FDs4 (ax ay au av ak ad cx cy cu cv ck cd p q r s d : Int) (_g5 : Nat) : FL := [(0, 19, vV p q), (1, 20, vShip ax ay au av ak ad), (2, 21, vShip cx cy cu cv ck cd), (3, 22, vV r s), (4, 23, .int .i64 d), (5, 24, .bool (decide (0 ≤ d)))]
def RDs4 (ax ay au av ak ad cx cy cu cv ck cd p q r s d : Int) (g5 : Nat) (w : World) (L : Nat → Bool) (us : Nat → Value) (W : World) : Prop :=
  Facts L us (FDs4 ax ay au av ak ad cx cy cu cv ck cd p q r s d g5) ∧ Bk w W (EDs4 ax ay au av ak ad cx cy cu cv ck cd p q r s d g5 w L us)
def XDs4 (ax ay au av ak ad cx cy cu cv ck cd p q _r _s _d : Int) (g5 : Nat) (w : World) : Nat → Option (Nat × List Value)
  | 0 => some (w.heap.size, [.int .i64 ax, .int .i64 ay, .int .i64 au, .int .i64 av, .int .i64 ak, .int .i64 ad])
  | 1 => some (w.heap.size + 1, [.int .i64 cx, .int .i64 cy, .int .i64 cu, .int .i64 cv, .int .i64 ck, .int .i64 cd])
  | 2 => some (g5, [.int .i64 p, .int .i64 q])
  | _ => none
def EDs6 (ax ay au av ak ad cx cy cu cv ck cd p q : Int) (_x _y : Bool) (g5 : Nat) (w : World) (_L : Nat → Bool) (_us : Nat → Value) : Nat → Option (Nat × List Value)
  | 0 => some (w.heap.size, [.int .i64 ax, .int .i64 ay, .int .i64 au, .int .i64 av, .int .i64 ak, .int .i64 ad])
  | 1 => some (w.heap.size + 1, [.int .i64 cx, .int .i64 cy, .int .i64 cu, .int .i64 cv, .int .i64 ck, .int .i64 cd])
  | 2 => some (g5, [.int .i64 p, .int .i64 q])
  | _ => none
def FDs6 (ax ay au av ak ad cx cy cu cv ck cd _p _q : Int) (x y : Bool) (_g5 : Nat) : FL := [(0, 25, vShip ax ay au av ak ad), (1, 26, vShip cx cy cu cv ck cd), (2, 27, .bool x), (3, 28, vShip cx cy cu cv ck cd), (4, 29, vShip ax ay au av ak ad), (5, 30, .bool y), (6, 6, .bool x), (7, 7, .bool y)]
def RDs6 (ax ay au av ak ad cx cy cu cv ck cd p q : Int) (x y : Bool) (g5 : Nat) (w : World) (L : Nat → Bool) (us : Nat → Value) (W : World) : Prop :=
  Facts L us (FDs6 ax ay au av ak ad cx cy cu cv ck cd p q x y g5) ∧ Bk w W (EDs6 ax ay au av ak ad cx cy cu cv ck cd p q x y g5 w L us)
def XDs6 (ax ay au av ak ad cx cy cu cv ck cd p q : Int) (_x _y : Bool) (g5 : Nat) (w : World) : Nat → Option (Nat × List Value)
  | 0 => some (w.heap.size, [.int .i64 ax, .int .i64 ay, .int .i64 au, .int .i64 av, .int .i64 ak, .int .i64 ad])
  | 1 => some (w.heap.size + 1, [.int .i64 cx, .int .i64 cy, .int .i64 cu, .int .i64 cv, .int .i64 ck, .int .i64 cd])
  | 2 => some (g5, [.int .i64 p, .int .i64 q])
  | _ => none
set_option maxRecDepth 10000 in
set_option maxHeartbeats 16000000 in
theorem specDuty_any (ax ay au av ak ad cx cy cu cv ck cd : Int) (w : World) : Calls Try.prog 28 #[vShip ax ay au av ak ad, vShip cx cy cu cv ck cd] w fun e w' => e = .returned (.int .i64 (duty ax ay au av ak ad cx cy cu cv ck cd)) ∧ Below w.heap.size w w' := by
  have HB := hide (bk_two w #[.int .i64 ax, .int .i64 ay, .int .i64 au, .int .i64 av, .int .i64 ak, .int .i64 ad] #[.int .i64 cx, .int .i64 cy, .int .i64 cu, .int .i64 cv, .int .i64 ck, .int .i64 cd] 25 25)
  have HS1 := hide fun W => specShipOk_any ax ay au av ak ad W
  have HS2 := hide fun W => specShipOk_any cx cy cu cv ck cd W
  unfold vShip at HS1 HS2 ⊢
  go_enter Try.func28, Try.ntmps28
  go_wp2_with fail
  refine (unhide HS1 _).mono ?_
  rintro e w1 ⟨rfl, hb⟩
  replace HB := hide ((unhide HB).step hb)
  clear hb HS1
  cases h1 : shipB ax ay au av ak ad
  · have HN : Hid (duty ax ay au av ak ad cx cy cu cv ck cd = 4) := by show _ = _; unfold duty; rw [h1]; simp [firstOf]
    clear h1 HS2
    go_wp2
    go_ret
    exact ⟨ret_int (unhide HN).symm, (unhide HB).below⟩
  have hq := (unhide HB).ownV (k := 1) rfl
  have c0 := hq.cell (i := 0) rfl
  have c1 := hq.cell (i := 1) rfl
  have c2 := hq.cell (i := 2) rfl
  have c3 := hq.cell (i := 3) rfl
  have c4 := hq.cell (i := 4) rfl
  have c5 := hq.cell (i := 5) rfl
  clear hq
  go_wp2_with fail
  refine (unhide HS2 _).mono ?_
  rintro e w2 ⟨rfl, hb⟩
  replace HB := hide ((unhide HB).step hb)
  clear hb HS2 c0 c1 c2 c3 c4 c5
  cases h2 : shipB cx cy cu cv ck cd
  · have HN : Hid (duty ax ay au av ak ad cx cy cu cv ck cd = 4) := by show _ = _; unfold duty; rw [h2]; simp [firstOf]
    clear h1 h2
    go_wp2
    go_ret
    exact ⟨ret_int (unhide HN).symm, (unhide HB).below⟩
  obtain ⟨ba0, ba1, ba2, ba3, ba4, ba5, ba6, ba7⟩ := shipB_bd h1
  obtain ⟨bc0, bc1, bc2, bc3, bc4, bc5, bc6, bc7⟩ := shipB_bd h2
  have HX := hide fun W => specBehind_any ax ay au av ak ad cx cy cu cv ck cd W
  have HY := hide fun W => specBehind_any cx cy cu cv ck cd ax ay au av ak ad W
  have HH := hide fun W => specHeadOn_any ax ay au av ak ad cx cy cu cv ck cd W
  have HR1 := hide fun W => specRight_any ax ay au av ak ad cx cy cu cv ck cd W h1 h2
  have HR2 := hide fun W => specRight_any cx cy cu cv ck cd ax ay au av ak ad W h2 h1
  have HBe := hide fun W => specBearing_any ax ay au av ak ad cx cy cu cv ck cd W ba0 ba1 ba2 ba3 bc0 bc1 bc2 bc3
  have HDi := hide fun W => specDiff_any ax ay au av ak ad cx cy cu cv ck cd W (by omega) (by omega) (by omega) (by omega) (by omega) (by omega) (by omega) (by omega)
  obtain ⟨p, ep⟩ : ∃ z, z = cx - ax := ⟨_, rfl⟩
  obtain ⟨q, eq⟩ : ∃ z, z = cy - ay := ⟨_, rfl⟩
  obtain ⟨r, er⟩ : ∃ z, z = cu - au := ⟨_, rfl⟩
  obtain ⟨s, es⟩ : ∃ z, z = cv - av := ⟨_, rfl⟩
  have HDo := hide fun W => specDot_any p q r s W (by omega) (by omega) (by omega) (by omega)
  obtain ⟨d, ed⟩ : ∃ z, z = p * r + q * s := ⟨_, rfl⟩
  have HD : Hid (duty ax ay au av ak ad cx cy cu cv ck cd = firstOf [(false, 4), (decide (0 ≤ d), 0), (behB ax ay au av ak ad cx cy cu cv ck cd && !behB cx cy cu cv ck cd ax ay au av ak ad, 2), (behB cx cy cu cv ck cd ax ay au av ak ad && !behB ax ay au av ak ad cx cy cu cv ck cd, 1), (decide (ak < ck), 2), (decide (ck < ak), 1), (hdB ax ay au av ak ad cx cy cu cv ck cd && (ak == 1 && ck == 1), 3), (rgtB ax ay au av ak ad cx cy cu cv ck cd && !rgtB cx cy cu cv ck cd ax ay au av ak ad, 2), (rgtB cx cy cu cv ck cd ax ay au av ak ad && !rgtB ax ay au av ak ad cx cy cu cv ck cd, 1), (decide (ad < cd), 2), (decide (cd < ad), 1)]) := by show _ = _; unfold duty prtB; rw [h1, h2, ed, ep, eq, er, es]; rfl
  rw [← ep, ← eq] at HBe
  rw [← er, ← es] at HDi
  rw [← ed] at HDo
  clear ed ep eq er es h1 h2 ba0 ba1 ba2 ba3 ba4 ba5 ba6 ba7 bc0 bc1 bc2 bc3 bc4 bc5 bc6 bc7
  generalize behB ax ay au av ak ad cx cy cu cv ck cd = x at HX HD
  generalize behB cx cy cu cv ck cd ax ay au av ak ad = y at HY HD
  generalize hdB ax ay au av ak ad cx cy cu cv ck cd = h at HH HD
  generalize rgtB ax ay au av ak ad cx cy cu cv ck cd = u at HR1 HD
  generalize rgtB cx cy cu cv ck cd ax ay au av ak ad = v at HR2 HD
  unfold vShip at HX HY HH HR1 HR2 HBe
  have hq := (unhide HB).ownV (k := 0) rfl
  have m0 := hq.cell (i := 0) rfl
  have m1 := hq.cell (i := 1) rfl
  have m2 := hq.cell (i := 2) rfl
  have m3 := hq.cell (i := 3) rfl
  have m4 := hq.cell (i := 4) rfl
  have m5 := hq.cell (i := 5) rfl
  clear hq
  have hq := (unhide HB).ownV (k := 1) rfl
  have n0 := hq.cell (i := 0) rfl
  have n1 := hq.cell (i := 1) rfl
  have n2 := hq.cell (i := 2) rfl
  have n3 := hq.cell (i := 3) rfl
  have n4 := hq.cell (i := 4) rfl
  have n5 := hq.cell (i := 5) rfl
  clear hq
  go_wp2_with fail
  refine (unhide HBe _).mono ?_
  rintro e w3 ⟨rfl, hb⟩
  replace HB := hide (((unhide HB).step hb).made 2 #[.int .i64 p, .int .i64 q] 76)
  clear hb HBe m0 m1 m2 m3 m4 m5 n0 n1 n2 n3 n4 n5
  go_wp2_with fail
  generalize w3.heap.size = g5 at *
  have HB0 : Hid (∀ us, Bk w _ (EDs4 ax ay au av ak ad cx cy cu cv ck cd p q r s d g5 w (fun _ => false) us)) := hide (fun us => ((unhide HB)).congr (fun k => by rcases k with _ | _ | _ | k <;> simp [EDs4, E2]))
  refine wp_region_slots [19, 20, 21, 22, 23, 24] (RDs4 ax ay au av ak ad cx cy cu cv ck cd p q r s d g5 w) (by kernel_rfl) (by kernel_rfl) (by decide) (by kernel_rfl) ?_ ?_ ?_
  · intro us
    exact ⟨facts_start us _, (unhide HB0 us).drew⟩
  · clear HB0
    refine StepsR.cons 1 rfl ?_ ?_
    · intro L us W hi hdep hR Kx hNx
      have hF := hide hR.1
      have hB := hR.2
      clear hR
      clear hdep
      have hE : EDs4 ax ay au av ak ad cx cy cu cv ck cd p q r s d g5 w L us 2 = some (g5, [.int .i64 p, .int .i64 q]) := by simp [EDs4]
      have hO := hB.ownV hE
      have c0 := hO.cell (i := 0) rfl
      have c1 := hO.cell (i := 1) rfl
      clear hO
      have HB := hide hB
      clear hB
      have HE := hide hE
      clear hE
      simp only [fillA, Act.put, List.setIfInBounds_toArray, List.set_cons_zero, List.set_cons_succ] at hNx ⊢
      rw [if_pos (by rfl)]
      go_simp
      first | refine hNx _ _ ?_ | skip
      exact ⟨(unhide hF).step rfl rfl, (unhide HB).congr (fun k => by rcases k with _ | _ | _ | k <;> simp [EDs4])⟩
    refine StepsR.cons 2 rfl ?_ ?_
    · intro L us W hi hdep hR Kx hNx
      have hF := hide hR.1
      have hB := hR.2
      clear hR
      clear hdep
      have hE : EDs4 ax ay au av ak ad cx cy cu cv ck cd p q r s d g5 w L us 0 = some (w.heap.size, [.int .i64 ax, .int .i64 ay, .int .i64 au, .int .i64 av, .int .i64 ak, .int .i64 ad]) := by simp [EDs4]
      have hO := hB.ownV hE
      have c0 := hO.cell (i := 0) rfl
      have c1 := hO.cell (i := 1) rfl
      have c2 := hO.cell (i := 2) rfl
      have c3 := hO.cell (i := 3) rfl
      have c4 := hO.cell (i := 4) rfl
      have c5 := hO.cell (i := 5) rfl
      clear hO
      have HB := hide hB
      clear hB
      have HE := hide hE
      clear hE
      simp only [fillA, Act.put, List.setIfInBounds_toArray, List.set_cons_zero, List.set_cons_succ] at hNx ⊢
      rw [if_pos (by rfl)]
      go_simp
      first | refine hNx _ _ ?_ | skip
      exact ⟨(unhide hF).step rfl rfl, (unhide HB).congr (fun k => by rcases k with _ | _ | _ | k <;> simp [EDs4])⟩
    refine StepsR.cons 3 rfl ?_ ?_
    · intro L us W hi hdep hR Kx hNx
      have hF := hide hR.1
      have hB := hR.2
      clear hR
      clear hdep
      have hE : EDs4 ax ay au av ak ad cx cy cu cv ck cd p q r s d g5 w L us 1 = some (w.heap.size + 1, [.int .i64 cx, .int .i64 cy, .int .i64 cu, .int .i64 cv, .int .i64 ck, .int .i64 cd]) := by simp [EDs4]
      have hO := hB.ownV hE
      have c0 := hO.cell (i := 0) rfl
      have c1 := hO.cell (i := 1) rfl
      have c2 := hO.cell (i := 2) rfl
      have c3 := hO.cell (i := 3) rfl
      have c4 := hO.cell (i := 4) rfl
      have c5 := hO.cell (i := 5) rfl
      clear hO
      have HB := hide hB
      clear hB
      have HE := hide hE
      clear hE
      simp only [fillA, Act.put, List.setIfInBounds_toArray, List.set_cons_zero, List.set_cons_succ] at hNx ⊢
      rw [if_pos (by rfl)]
      go_simp
      first | refine hNx _ _ ?_ | skip
      exact ⟨(unhide hF).step rfl rfl, (unhide HB).congr (fun k => by rcases k with _ | _ | _ | k <;> simp [EDs4])⟩
    refine StepsR.cons 4 rfl ?_ ?_
    · intro L us W hi hdep hR Kx hNx
      have hF := hide hR.1
      have hB := hR.2
      clear hR
      have d1 : L 1 = true := hdep 1 (by kernel_rfl)
      have d2 : L 2 = true := hdep 2 (by kernel_rfl)
      clear hdep
      have e20 : us 20 = vShip ax ay au av ak ad := (unhide hF).get (k := 1) rfl d1
      have e21 : us 21 = vShip cx cy cu cv ck cd := (unhide hF).get (k := 2) rfl d2
      have HB := hide hB
      clear hB
      simp only [fillA, Act.put, List.setIfInBounds_toArray, List.set_cons_zero, List.set_cons_succ] at hNx ⊢
      simp only [e20, e21] at hNx ⊢
      clear e20 e21
      rw [if_pos (by rfl)]
      have HC := hide (unhide HDi W)
      go_simp
      refine (unhide HC).mono ?_
      rintro e W' ⟨rfl, hb⟩
      replace HB := hide ((unhide HB).step hb)
      clear hb HC
      go_wp2_with fail
      first | refine hNx _ _ ?_ | skip
      exact ⟨(unhide hF).step rfl rfl, (unhide HB).congr (fun k => by rcases k with _ | _ | _ | k <;> simp [EDs4])⟩
    refine StepsR.cons 5 rfl ?_ ?_
    · intro L us W hi hdep hR Kx hNx
      have hF := hide hR.1
      have hB := hR.2
      clear hR
      have d0 : L 0 = true := hdep 0 (by kernel_rfl)
      have d3 : L 3 = true := hdep 3 (by kernel_rfl)
      clear hdep
      have e19 : us 19 = vV p q := (unhide hF).get (k := 0) rfl d0
      have e22 : us 22 = vV r s := (unhide hF).get (k := 3) rfl d3
      have HB := hide hB
      clear hB
      simp only [fillA, Act.put, List.setIfInBounds_toArray, List.set_cons_zero, List.set_cons_succ] at hNx ⊢
      simp only [e19, e22] at hNx ⊢
      clear e19 e22
      rw [if_pos (by rfl)]
      have HC := hide (unhide HDo W)
      go_simp
      refine (unhide HC).mono ?_
      rintro e W' ⟨rfl, hb⟩
      replace HB := hide ((unhide HB).step hb)
      clear hb HC
      go_wp2_with fail
      first | refine hNx _ _ ?_ | skip
      exact ⟨(unhide hF).step rfl rfl, (unhide HB).congr (fun k => by rcases k with _ | _ | _ | k <;> simp [EDs4])⟩
    refine StepsR.cons 6 rfl ?_ ?_
    · intro L us W hi hdep hR Kx hNx
      have hF := hide hR.1
      have hB := hR.2
      clear hR
      have d4 : L 4 = true := hdep 4 (by kernel_rfl)
      clear hdep
      have e23 : us 23 = .int .i64 d := (unhide hF).get (k := 4) rfl d4
      have HB := hide hB
      clear hB
      simp only [fillA, Act.put, List.setIfInBounds_toArray, List.set_cons_zero, List.set_cons_succ] at hNx ⊢
      simp only [e23] at hNx ⊢
      clear e23
      rw [if_pos (by rfl)]
      go_simp
      first | refine hNx _ _ ?_ | skip
      exact ⟨(unhide hF).step rfl rfl, (unhide HB).congr (fun k => by rcases k with _ | _ | _ | k <;> simp [EDs4])⟩
    exact StepsR.nil
  · intro L us W hL hR
    have hF := hide hR.1
    have hB := hR.2
    clear hR
    have hE0 : EDs4 ax ay au av ak ad cx cy cu cv ck cd p q r s d g5 w L us 0 = some (w.heap.size, [.int .i64 ax, .int .i64 ay, .int .i64 au, .int .i64 av, .int .i64 ak, .int .i64 ad]) := by simp [EDs4]
    have hO0 := hB.ownV hE0
    have hE1 : EDs4 ax ay au av ak ad cx cy cu cv ck cd p q r s d g5 w L us 1 = some (w.heap.size + 1, [.int .i64 cx, .int .i64 cy, .int .i64 cu, .int .i64 cv, .int .i64 ck, .int .i64 cd]) := by simp [EDs4]
    have hO1 := hB.ownV hE1
    have hE2 : EDs4 ax ay au av ak ad cx cy cu cv ck cd p q r s d g5 w L us 2 = some (g5, [.int .i64 p, .int .i64 q]) := by simp [EDs4]
    have hO2 := hB.ownV hE2
    clear hE0 hE1 hE2
    have HA : Hid (Bk w W (XDs4 ax ay au av ak ad cx cy cu cv ck cd p q r s d g5 w)) := hide (hB.congr (fun k => by rcases k with _ | _ | _ | k <;> simp [EDs4, XDs4]))
    have f0 : us 19 = vV p q := (unhide hF).get (k := 0) rfl (hL 0 (by decide))
    have f1 : us 20 = vShip ax ay au av ak ad := (unhide hF).get (k := 1) rfl (hL 1 (by decide))
    have f2 : us 21 = vShip cx cy cu cv ck cd := (unhide hF).get (k := 2) rfl (hL 2 (by decide))
    have f3 : us 22 = vV r s := (unhide hF).get (k := 3) rfl (hL 3 (by decide))
    have f4 : us 23 = .int .i64 d := (unhide hF).get (k := 4) rfl (hL 4 (by decide))
    have f5 : us 24 = .bool (decide (0 ≤ d)) := (unhide hF).get (k := 5) rfl (hL 5 (by decide))
    have HW := hide hB.below
    clear hB hL
    simp only [fillA, Act.put, List.setIfInBounds_toArray, List.set_cons_zero, List.set_cons_succ]
    simp only [f0, f1, f2, f3, f4, f5]
    clear hF f0 f1 f2 f3 f4 f5
    clear us L
    clear hO0 hO1 hO2 HW HB HDi HDo
    cases hp : decide (0 ≤ d)
    case true =>
      rw [hp] at HD
      have HW := hide (unhide HA).below
      go_wp2
      go_ret
      exact ⟨ret_int (unhide HD).symm, unhide HW⟩
    rw [hp] at HD
    clear hp
    go_wp2_with fail
    have HB0 : Hid (∀ us, Bk w _ (EDs6 ax ay au av ak ad cx cy cu cv ck cd p q x y g5 w (fun _ => false) us)) := hide (fun us => ((unhide HA)).congr (fun k => by rcases k with _ | _ | _ | k <;> simp [EDs6, XDs4]))
    refine wp_region_slots [25, 26, 27, 28, 29, 30, 6, 7] (RDs6 ax ay au av ak ad cx cy cu cv ck cd p q x y g5 w) (by kernel_rfl) (by kernel_rfl) (by decide) (by kernel_rfl) ?_ ?_ ?_
    · intro us
      exact ⟨facts_start us _, (unhide HB0 us).drew⟩
    · clear HB0
      refine StepsR.cons 1 rfl ?_ ?_
      · intro L us W hi hdep hR Kx hNx
        have hF := hide hR.1
        have hB := hR.2
        clear hR
        clear hdep
        have hE : EDs6 ax ay au av ak ad cx cy cu cv ck cd p q x y g5 w L us 0 = some (w.heap.size, [.int .i64 ax, .int .i64 ay, .int .i64 au, .int .i64 av, .int .i64 ak, .int .i64 ad]) := by simp [EDs6]
        have hO := hB.ownV hE
        have c0 := hO.cell (i := 0) rfl
        have c1 := hO.cell (i := 1) rfl
        have c2 := hO.cell (i := 2) rfl
        have c3 := hO.cell (i := 3) rfl
        have c4 := hO.cell (i := 4) rfl
        have c5 := hO.cell (i := 5) rfl
        clear hO
        have HB := hide hB
        clear hB
        have HE := hide hE
        clear hE
        simp only [fillA, Act.put, List.setIfInBounds_toArray, List.set_cons_zero, List.set_cons_succ] at hNx ⊢
        rw [if_pos (by rfl)]
        go_simp
        first | refine hNx _ _ ?_ | skip
        exact ⟨(unhide hF).step rfl rfl, (unhide HB).congr (fun k => by rcases k with _ | _ | _ | k <;> simp [EDs6])⟩
      refine StepsR.cons 2 rfl ?_ ?_
      · intro L us W hi hdep hR Kx hNx
        have hF := hide hR.1
        have hB := hR.2
        clear hR
        clear hdep
        have hE : EDs6 ax ay au av ak ad cx cy cu cv ck cd p q x y g5 w L us 1 = some (w.heap.size + 1, [.int .i64 cx, .int .i64 cy, .int .i64 cu, .int .i64 cv, .int .i64 ck, .int .i64 cd]) := by simp [EDs6]
        have hO := hB.ownV hE
        have c0 := hO.cell (i := 0) rfl
        have c1 := hO.cell (i := 1) rfl
        have c2 := hO.cell (i := 2) rfl
        have c3 := hO.cell (i := 3) rfl
        have c4 := hO.cell (i := 4) rfl
        have c5 := hO.cell (i := 5) rfl
        clear hO
        have HB := hide hB
        clear hB
        have HE := hide hE
        clear hE
        simp only [fillA, Act.put, List.setIfInBounds_toArray, List.set_cons_zero, List.set_cons_succ] at hNx ⊢
        rw [if_pos (by rfl)]
        go_simp
        first | refine hNx _ _ ?_ | skip
        exact ⟨(unhide hF).step rfl rfl, (unhide HB).congr (fun k => by rcases k with _ | _ | _ | k <;> simp [EDs6])⟩
      refine StepsR.cons 3 rfl ?_ ?_
      · intro L us W hi hdep hR Kx hNx
        have hF := hide hR.1
        have hB := hR.2
        clear hR
        have d0 : L 0 = true := hdep 0 (by kernel_rfl)
        have d1 : L 1 = true := hdep 1 (by kernel_rfl)
        clear hdep
        have e25 : us 25 = vShip ax ay au av ak ad := (unhide hF).get (k := 0) rfl d0
        have e26 : us 26 = vShip cx cy cu cv ck cd := (unhide hF).get (k := 1) rfl d1
        have HB := hide hB
        clear hB
        simp only [fillA, Act.put, List.setIfInBounds_toArray, List.set_cons_zero, List.set_cons_succ] at hNx ⊢
        simp only [e25, e26] at hNx ⊢
        clear e25 e26
        rw [if_pos (by rfl)]
        have HC := hide (unhide HX W)
        go_simp
        refine (unhide HC).mono ?_
        rintro e W' ⟨rfl, hb⟩
        replace HB := hide ((unhide HB).step hb)
        clear hb HC
        go_wp2_with fail
        first | refine hNx _ _ ?_ | skip
        exact ⟨(unhide hF).step rfl rfl, (unhide HB).congr (fun k => by rcases k with _ | _ | _ | k <;> simp [EDs6])⟩
      refine StepsR.cons 4 rfl ?_ ?_
      · intro L us W hi hdep hR Kx hNx
        have hF := hide hR.1
        have hB := hR.2
        clear hR
        clear hdep
        have hE : EDs6 ax ay au av ak ad cx cy cu cv ck cd p q x y g5 w L us 1 = some (w.heap.size + 1, [.int .i64 cx, .int .i64 cy, .int .i64 cu, .int .i64 cv, .int .i64 ck, .int .i64 cd]) := by simp [EDs6]
        have hO := hB.ownV hE
        have c0 := hO.cell (i := 0) rfl
        have c1 := hO.cell (i := 1) rfl
        have c2 := hO.cell (i := 2) rfl
        have c3 := hO.cell (i := 3) rfl
        have c4 := hO.cell (i := 4) rfl
        have c5 := hO.cell (i := 5) rfl
        clear hO
        have HB := hide hB
        clear hB
        have HE := hide hE
        clear hE
        simp only [fillA, Act.put, List.setIfInBounds_toArray, List.set_cons_zero, List.set_cons_succ] at hNx ⊢
        rw [if_pos (by rfl)]
        go_simp
        first | refine hNx _ _ ?_ | skip
        exact ⟨(unhide hF).step rfl rfl, (unhide HB).congr (fun k => by rcases k with _ | _ | _ | k <;> simp [EDs6])⟩
      refine StepsR.cons 5 rfl ?_ ?_
      · intro L us W hi hdep hR Kx hNx
        have hF := hide hR.1
        have hB := hR.2
        clear hR
        clear hdep
        have hE : EDs6 ax ay au av ak ad cx cy cu cv ck cd p q x y g5 w L us 0 = some (w.heap.size, [.int .i64 ax, .int .i64 ay, .int .i64 au, .int .i64 av, .int .i64 ak, .int .i64 ad]) := by simp [EDs6]
        have hO := hB.ownV hE
        have c0 := hO.cell (i := 0) rfl
        have c1 := hO.cell (i := 1) rfl
        have c2 := hO.cell (i := 2) rfl
        have c3 := hO.cell (i := 3) rfl
        have c4 := hO.cell (i := 4) rfl
        have c5 := hO.cell (i := 5) rfl
        clear hO
        have HB := hide hB
        clear hB
        have HE := hide hE
        clear hE
        simp only [fillA, Act.put, List.setIfInBounds_toArray, List.set_cons_zero, List.set_cons_succ] at hNx ⊢
        rw [if_pos (by rfl)]
        go_simp
        first | refine hNx _ _ ?_ | skip
        exact ⟨(unhide hF).step rfl rfl, (unhide HB).congr (fun k => by rcases k with _ | _ | _ | k <;> simp [EDs6])⟩
      refine StepsR.cons 6 rfl ?_ ?_
      · intro L us W hi hdep hR Kx hNx
        have hF := hide hR.1
        have hB := hR.2
        clear hR
        have d3 : L 3 = true := hdep 3 (by kernel_rfl)
        have d4 : L 4 = true := hdep 4 (by kernel_rfl)
        clear hdep
        have e28 : us 28 = vShip cx cy cu cv ck cd := (unhide hF).get (k := 3) rfl d3
        have e29 : us 29 = vShip ax ay au av ak ad := (unhide hF).get (k := 4) rfl d4
        have HB := hide hB
        clear hB
        simp only [fillA, Act.put, List.setIfInBounds_toArray, List.set_cons_zero, List.set_cons_succ] at hNx ⊢
        simp only [e28, e29] at hNx ⊢
        clear e28 e29
        rw [if_pos (by rfl)]
        have HC := hide (unhide HY W)
        go_simp
        refine (unhide HC).mono ?_
        rintro e W' ⟨rfl, hb⟩
        replace HB := hide ((unhide HB).step hb)
        clear hb HC
        go_wp2_with fail
        first | refine hNx _ _ ?_ | skip
        exact ⟨(unhide hF).step rfl rfl, (unhide HB).congr (fun k => by rcases k with _ | _ | _ | k <;> simp [EDs6])⟩
      refine StepsR.cons 7 rfl ?_ ?_
      · intro L us W hi hdep hR Kx hNx
        have hF := hide hR.1
        have hB := hR.2
        clear hR
        have d2 : L 2 = true := hdep 2 (by kernel_rfl)
        clear hdep
        have e27 : us 27 = .bool x := (unhide hF).get (k := 2) rfl d2
        have HB := hide hB
        clear hB
        simp only [fillA, Act.put, List.setIfInBounds_toArray, List.set_cons_zero, List.set_cons_succ] at hNx ⊢
        simp only [e27] at hNx ⊢
        clear e27
        rw [if_pos (by rfl)]
        go_simp
        first | refine hNx _ _ ?_ | skip
        exact ⟨(unhide hF).step rfl rfl, (unhide HB).congr (fun k => by rcases k with _ | _ | _ | k <;> simp [EDs6])⟩
      refine StepsR.cons 8 rfl ?_ ?_
      · intro L us W hi hdep hR Kx hNx
        have hF := hide hR.1
        have hB := hR.2
        clear hR
        have d5 : L 5 = true := hdep 5 (by kernel_rfl)
        clear hdep
        have e30 : us 30 = .bool y := (unhide hF).get (k := 5) rfl d5
        have HB := hide hB
        clear hB
        simp only [fillA, Act.put, List.setIfInBounds_toArray, List.set_cons_zero, List.set_cons_succ] at hNx ⊢
        simp only [e30] at hNx ⊢
        clear e30
        rw [if_pos (by rfl)]
        go_simp
        first | refine hNx _ _ ?_ | skip
        exact ⟨(unhide hF).step rfl rfl, (unhide HB).congr (fun k => by rcases k with _ | _ | _ | k <;> simp [EDs6])⟩
      exact StepsR.nil
    · intro L us W hL hR
      have hF := hide hR.1
      have hB := hR.2
      clear hR
      have hE0 : EDs6 ax ay au av ak ad cx cy cu cv ck cd p q x y g5 w L us 0 = some (w.heap.size, [.int .i64 ax, .int .i64 ay, .int .i64 au, .int .i64 av, .int .i64 ak, .int .i64 ad]) := by simp [EDs6]
      have hO0 := hB.ownV hE0
      have hE1 : EDs6 ax ay au av ak ad cx cy cu cv ck cd p q x y g5 w L us 1 = some (w.heap.size + 1, [.int .i64 cx, .int .i64 cy, .int .i64 cu, .int .i64 cv, .int .i64 ck, .int .i64 cd]) := by simp [EDs6]
      have hO1 := hB.ownV hE1
      have hE2 : EDs6 ax ay au av ak ad cx cy cu cv ck cd p q x y g5 w L us 2 = some (g5, [.int .i64 p, .int .i64 q]) := by simp [EDs6]
      have hO2 := hB.ownV hE2
      clear hE0 hE1 hE2
      have HA : Hid (Bk w W (XDs6 ax ay au av ak ad cx cy cu cv ck cd p q x y g5 w)) := hide (hB.congr (fun k => by rcases k with _ | _ | _ | k <;> simp [EDs6, XDs6]))
      have f0 : us 25 = vShip ax ay au av ak ad := (unhide hF).get (k := 0) rfl (hL 0 (by decide))
      have f1 : us 26 = vShip cx cy cu cv ck cd := (unhide hF).get (k := 1) rfl (hL 1 (by decide))
      have f2 : us 27 = .bool x := (unhide hF).get (k := 2) rfl (hL 2 (by decide))
      have f3 : us 28 = vShip cx cy cu cv ck cd := (unhide hF).get (k := 3) rfl (hL 3 (by decide))
      have f4 : us 29 = vShip ax ay au av ak ad := (unhide hF).get (k := 4) rfl (hL 4 (by decide))
      have f5 : us 30 = .bool y := (unhide hF).get (k := 5) rfl (hL 5 (by decide))
      have f6 : us 6 = .bool x := (unhide hF).get (k := 6) rfl (hL 6 (by decide))
      have f7 : us 7 = .bool y := (unhide hF).get (k := 7) rfl (hL 7 (by decide))
      have HW := hide hB.below
      clear hB hL
      simp only [fillA, Act.put, List.setIfInBounds_toArray, List.set_cons_zero, List.set_cons_succ]
      simp only [f0, f1, f2, f3, f4, f5, f6, f7]
      clear hF f0 f1 f2 f3 f4 f5 f6 f7
      clear us L
      clear hO0 hO1 hO2 HW HX HY
      cases x <;> cases y
      · skip
        have hq := (unhide HA).ownV (k := 0) rfl
        have m0 := hq.cell (i := 0) rfl
        have m1 := hq.cell (i := 1) rfl
        have m2 := hq.cell (i := 2) rfl
        have m3 := hq.cell (i := 3) rfl
        have m4 := hq.cell (i := 4) rfl
        have m5 := hq.cell (i := 5) rfl
        clear hq
        have hq := (unhide HA).ownV (k := 1) rfl
        have n0 := hq.cell (i := 0) rfl
        have n1 := hq.cell (i := 1) rfl
        have n2 := hq.cell (i := 2) rfl
        have n3 := hq.cell (i := 3) rfl
        have n4 := hq.cell (i := 4) rfl
        have n5 := hq.cell (i := 5) rfl
        clear hq
        cases hl : decide (ak < ck)
        case true =>
          rw [hl] at HD
          have HW := hide (unhide HA).below
          go_wp2
          go_ret
          exact ⟨ret_int (unhide HD).symm, unhide HW⟩
        cases hg : decide (ck < ak)
        case true =>
          rw [hl, hg] at HD
          have HW := hide (unhide HA).below
          go_wp2
          go_ret
          exact ⟨ret_int (unhide HD).symm, unhide HW⟩
        have ek : ck = ak := by
          simp at hl hg
          omega
        have HK : Hid ((ak == 1 && ck == 1) = (ak == 1)) := by show _ = _; rw [ek, Bool.and_self]
        rw [hl, hg] at HD
        clear ek
        go_wp2_with fail
        refine (unhide HH _).mono ?_
        rintro e w7 ⟨rfl, hb⟩
        replace HA := hide ((unhide HA).step hb)
        clear hb HH hl hg m0 m1 m2 m3 m4 m5 n0 n1 n2 n3 n4 n5
        have hq := (unhide HA).ownV (k := 0) rfl
        have m0 := hq.cell (i := 0) rfl
        have m1 := hq.cell (i := 1) rfl
        have m2 := hq.cell (i := 2) rfl
        have m3 := hq.cell (i := 3) rfl
        have m4 := hq.cell (i := 4) rfl
        have m5 := hq.cell (i := 5) rfl
        clear hq
        have hq := (unhide HA).ownV (k := 1) rfl
        have n0 := hq.cell (i := 0) rfl
        have n1 := hq.cell (i := 1) rfl
        have n2 := hq.cell (i := 2) rfl
        have n3 := hq.cell (i := 3) rfl
        have n4 := hq.cell (i := 4) rfl
        have n5 := hq.cell (i := 5) rfl
        clear hq
        have HD2 : Hid (duty ax ay au av ak ad cx cy cu cv ck cd = firstOf [(h && (ak == 1), 3), (u && !v, 2), (v && !u, 1), (decide (ad < cd), 2), (decide (cd < ad), 1)]) := by
          show _ = _
          rw [unhide HD, unhide HK]
          rfl
        clear HD HK
        cases h
        · skip
          go_wp2_with fail
          refine (unhide HR1 _).mono ?_
          rintro e w8 ⟨rfl, hb⟩
          replace HA := hide ((unhide HA).step hb)
          clear hb HR1 m0 m1 m2 m3 m4 m5 n0 n1 n2 n3 n4 n5
          have hq := (unhide HA).ownV (k := 0) rfl
          have m0 := hq.cell (i := 0) rfl
          have m1 := hq.cell (i := 1) rfl
          have m2 := hq.cell (i := 2) rfl
          have m3 := hq.cell (i := 3) rfl
          have m4 := hq.cell (i := 4) rfl
          have m5 := hq.cell (i := 5) rfl
          clear hq
          have hq := (unhide HA).ownV (k := 1) rfl
          have n0 := hq.cell (i := 0) rfl
          have n1 := hq.cell (i := 1) rfl
          have n2 := hq.cell (i := 2) rfl
          have n3 := hq.cell (i := 3) rfl
          have n4 := hq.cell (i := 4) rfl
          have n5 := hq.cell (i := 5) rfl
          clear hq
          go_wp2_with fail
          refine (unhide HR2 _).mono ?_
          rintro e w9 ⟨rfl, hb⟩
          replace HA := hide ((unhide HA).step hb)
          clear hb HR2 m0 m1 m2 m3 m4 m5 n0 n1 n2 n3 n4 n5
          have HW := hide (unhide HA).below
          have hq := (unhide HA).ownV (k := 0) rfl
          have m0 := hq.cell (i := 0) rfl
          have m1 := hq.cell (i := 1) rfl
          have m2 := hq.cell (i := 2) rfl
          have m3 := hq.cell (i := 3) rfl
          have m4 := hq.cell (i := 4) rfl
          have m5 := hq.cell (i := 5) rfl
          clear hq
          have hq := (unhide HA).ownV (k := 1) rfl
          have n0 := hq.cell (i := 0) rfl
          have n1 := hq.cell (i := 1) rfl
          have n2 := hq.cell (i := 2) rfl
          have n3 := hq.cell (i := 3) rfl
          have n4 := hq.cell (i := 4) rfl
          have n5 := hq.cell (i := 5) rfl
          clear hq
          cases u <;> cases v
          · cases hl : decide (ad < cd)
            case true =>
              rw [hl] at HD2
              go_wp2
              go_ret
              exact ⟨ret_int (unhide HD2).symm, unhide HW⟩
            cases hg : decide (cd < ad) <;> (rw [hl, hg] at HD2; go_wp2; go_ret; exact ⟨ret_int (unhide HD2).symm, unhide HW⟩)
          · go_wp2
            go_ret
            exact ⟨ret_int (unhide HD2).symm, unhide HW⟩
          · go_wp2
            go_ret
            exact ⟨ret_int (unhide HD2).symm, unhide HW⟩
          · cases hl : decide (ad < cd)
            case true =>
              rw [hl] at HD2
              go_wp2
              go_ret
              exact ⟨ret_int (unhide HD2).symm, unhide HW⟩
            cases hg : decide (cd < ad) <;> (rw [hl, hg] at HD2; go_wp2; go_ret; exact ⟨ret_int (unhide HD2).symm, unhide HW⟩)
        cases h1 : (ak == 1)
        · rw [h1] at HD2
          go_wp2_with fail
          refine (unhide HR1 _).mono ?_
          rintro e w8 ⟨rfl, hb⟩
          replace HA := hide ((unhide HA).step hb)
          clear hb HR1 m0 m1 m2 m3 m4 m5 n0 n1 n2 n3 n4 n5
          have hq := (unhide HA).ownV (k := 0) rfl
          have m0 := hq.cell (i := 0) rfl
          have m1 := hq.cell (i := 1) rfl
          have m2 := hq.cell (i := 2) rfl
          have m3 := hq.cell (i := 3) rfl
          have m4 := hq.cell (i := 4) rfl
          have m5 := hq.cell (i := 5) rfl
          clear hq
          have hq := (unhide HA).ownV (k := 1) rfl
          have n0 := hq.cell (i := 0) rfl
          have n1 := hq.cell (i := 1) rfl
          have n2 := hq.cell (i := 2) rfl
          have n3 := hq.cell (i := 3) rfl
          have n4 := hq.cell (i := 4) rfl
          have n5 := hq.cell (i := 5) rfl
          clear hq
          go_wp2_with fail
          refine (unhide HR2 _).mono ?_
          rintro e w9 ⟨rfl, hb⟩
          replace HA := hide ((unhide HA).step hb)
          clear hb HR2 m0 m1 m2 m3 m4 m5 n0 n1 n2 n3 n4 n5
          have HW := hide (unhide HA).below
          have hq := (unhide HA).ownV (k := 0) rfl
          have m0 := hq.cell (i := 0) rfl
          have m1 := hq.cell (i := 1) rfl
          have m2 := hq.cell (i := 2) rfl
          have m3 := hq.cell (i := 3) rfl
          have m4 := hq.cell (i := 4) rfl
          have m5 := hq.cell (i := 5) rfl
          clear hq
          have hq := (unhide HA).ownV (k := 1) rfl
          have n0 := hq.cell (i := 0) rfl
          have n1 := hq.cell (i := 1) rfl
          have n2 := hq.cell (i := 2) rfl
          have n3 := hq.cell (i := 3) rfl
          have n4 := hq.cell (i := 4) rfl
          have n5 := hq.cell (i := 5) rfl
          clear hq
          cases u <;> cases v
          · cases hl : decide (ad < cd)
            case true =>
              rw [hl] at HD2
              go_wp2
              go_ret
              exact ⟨ret_int (unhide HD2).symm, unhide HW⟩
            cases hg : decide (cd < ad) <;> (rw [hl, hg] at HD2; go_wp2; go_ret; exact ⟨ret_int (unhide HD2).symm, unhide HW⟩)
          · go_wp2
            go_ret
            exact ⟨ret_int (unhide HD2).symm, unhide HW⟩
          · go_wp2
            go_ret
            exact ⟨ret_int (unhide HD2).symm, unhide HW⟩
          · cases hl : decide (ad < cd)
            case true =>
              rw [hl] at HD2
              go_wp2
              go_ret
              exact ⟨ret_int (unhide HD2).symm, unhide HW⟩
            cases hg : decide (cd < ad) <;> (rw [hl, hg] at HD2; go_wp2; go_ret; exact ⟨ret_int (unhide HD2).symm, unhide HW⟩)
        rw [h1] at HD2
        have HW := hide (unhide HA).below
        go_wp2
        go_ret
        exact ⟨ret_int (unhide HD2).symm, unhide HW⟩
      · skip
        have HW := hide (unhide HA).below
        go_wp2
        go_ret
        exact ⟨ret_int (unhide HD).symm, unhide HW⟩
      · skip
        have HW := hide (unhide HA).below
        go_wp2
        go_ret
        exact ⟨ret_int (unhide HD).symm, unhide HW⟩
      · skip
        have hq := (unhide HA).ownV (k := 0) rfl
        have m0 := hq.cell (i := 0) rfl
        have m1 := hq.cell (i := 1) rfl
        have m2 := hq.cell (i := 2) rfl
        have m3 := hq.cell (i := 3) rfl
        have m4 := hq.cell (i := 4) rfl
        have m5 := hq.cell (i := 5) rfl
        clear hq
        have hq := (unhide HA).ownV (k := 1) rfl
        have n0 := hq.cell (i := 0) rfl
        have n1 := hq.cell (i := 1) rfl
        have n2 := hq.cell (i := 2) rfl
        have n3 := hq.cell (i := 3) rfl
        have n4 := hq.cell (i := 4) rfl
        have n5 := hq.cell (i := 5) rfl
        clear hq
        cases hl : decide (ak < ck)
        case true =>
          rw [hl] at HD
          have HW := hide (unhide HA).below
          go_wp2
          go_ret
          exact ⟨ret_int (unhide HD).symm, unhide HW⟩
        cases hg : decide (ck < ak)
        case true =>
          rw [hl, hg] at HD
          have HW := hide (unhide HA).below
          go_wp2
          go_ret
          exact ⟨ret_int (unhide HD).symm, unhide HW⟩
        have ek : ck = ak := by
          simp at hl hg
          omega
        have HK : Hid ((ak == 1 && ck == 1) = (ak == 1)) := by show _ = _; rw [ek, Bool.and_self]
        rw [hl, hg] at HD
        clear ek
        go_wp2_with fail
        refine (unhide HH _).mono ?_
        rintro e w7 ⟨rfl, hb⟩
        replace HA := hide ((unhide HA).step hb)
        clear hb HH hl hg m0 m1 m2 m3 m4 m5 n0 n1 n2 n3 n4 n5
        have hq := (unhide HA).ownV (k := 0) rfl
        have m0 := hq.cell (i := 0) rfl
        have m1 := hq.cell (i := 1) rfl
        have m2 := hq.cell (i := 2) rfl
        have m3 := hq.cell (i := 3) rfl
        have m4 := hq.cell (i := 4) rfl
        have m5 := hq.cell (i := 5) rfl
        clear hq
        have hq := (unhide HA).ownV (k := 1) rfl
        have n0 := hq.cell (i := 0) rfl
        have n1 := hq.cell (i := 1) rfl
        have n2 := hq.cell (i := 2) rfl
        have n3 := hq.cell (i := 3) rfl
        have n4 := hq.cell (i := 4) rfl
        have n5 := hq.cell (i := 5) rfl
        clear hq
        have HD2 : Hid (duty ax ay au av ak ad cx cy cu cv ck cd = firstOf [(h && (ak == 1), 3), (u && !v, 2), (v && !u, 1), (decide (ad < cd), 2), (decide (cd < ad), 1)]) := by
          show _ = _
          rw [unhide HD, unhide HK]
          rfl
        clear HD HK
        cases h
        · skip
          go_wp2_with fail
          refine (unhide HR1 _).mono ?_
          rintro e w8 ⟨rfl, hb⟩
          replace HA := hide ((unhide HA).step hb)
          clear hb HR1 m0 m1 m2 m3 m4 m5 n0 n1 n2 n3 n4 n5
          have hq := (unhide HA).ownV (k := 0) rfl
          have m0 := hq.cell (i := 0) rfl
          have m1 := hq.cell (i := 1) rfl
          have m2 := hq.cell (i := 2) rfl
          have m3 := hq.cell (i := 3) rfl
          have m4 := hq.cell (i := 4) rfl
          have m5 := hq.cell (i := 5) rfl
          clear hq
          have hq := (unhide HA).ownV (k := 1) rfl
          have n0 := hq.cell (i := 0) rfl
          have n1 := hq.cell (i := 1) rfl
          have n2 := hq.cell (i := 2) rfl
          have n3 := hq.cell (i := 3) rfl
          have n4 := hq.cell (i := 4) rfl
          have n5 := hq.cell (i := 5) rfl
          clear hq
          go_wp2_with fail
          refine (unhide HR2 _).mono ?_
          rintro e w9 ⟨rfl, hb⟩
          replace HA := hide ((unhide HA).step hb)
          clear hb HR2 m0 m1 m2 m3 m4 m5 n0 n1 n2 n3 n4 n5
          have HW := hide (unhide HA).below
          have hq := (unhide HA).ownV (k := 0) rfl
          have m0 := hq.cell (i := 0) rfl
          have m1 := hq.cell (i := 1) rfl
          have m2 := hq.cell (i := 2) rfl
          have m3 := hq.cell (i := 3) rfl
          have m4 := hq.cell (i := 4) rfl
          have m5 := hq.cell (i := 5) rfl
          clear hq
          have hq := (unhide HA).ownV (k := 1) rfl
          have n0 := hq.cell (i := 0) rfl
          have n1 := hq.cell (i := 1) rfl
          have n2 := hq.cell (i := 2) rfl
          have n3 := hq.cell (i := 3) rfl
          have n4 := hq.cell (i := 4) rfl
          have n5 := hq.cell (i := 5) rfl
          clear hq
          cases u <;> cases v
          · cases hl : decide (ad < cd)
            case true =>
              rw [hl] at HD2
              go_wp2
              go_ret
              exact ⟨ret_int (unhide HD2).symm, unhide HW⟩
            cases hg : decide (cd < ad) <;> (rw [hl, hg] at HD2; go_wp2; go_ret; exact ⟨ret_int (unhide HD2).symm, unhide HW⟩)
          · go_wp2
            go_ret
            exact ⟨ret_int (unhide HD2).symm, unhide HW⟩
          · go_wp2
            go_ret
            exact ⟨ret_int (unhide HD2).symm, unhide HW⟩
          · cases hl : decide (ad < cd)
            case true =>
              rw [hl] at HD2
              go_wp2
              go_ret
              exact ⟨ret_int (unhide HD2).symm, unhide HW⟩
            cases hg : decide (cd < ad) <;> (rw [hl, hg] at HD2; go_wp2; go_ret; exact ⟨ret_int (unhide HD2).symm, unhide HW⟩)
        cases h1 : (ak == 1)
        · rw [h1] at HD2
          go_wp2_with fail
          refine (unhide HR1 _).mono ?_
          rintro e w8 ⟨rfl, hb⟩
          replace HA := hide ((unhide HA).step hb)
          clear hb HR1 m0 m1 m2 m3 m4 m5 n0 n1 n2 n3 n4 n5
          have hq := (unhide HA).ownV (k := 0) rfl
          have m0 := hq.cell (i := 0) rfl
          have m1 := hq.cell (i := 1) rfl
          have m2 := hq.cell (i := 2) rfl
          have m3 := hq.cell (i := 3) rfl
          have m4 := hq.cell (i := 4) rfl
          have m5 := hq.cell (i := 5) rfl
          clear hq
          have hq := (unhide HA).ownV (k := 1) rfl
          have n0 := hq.cell (i := 0) rfl
          have n1 := hq.cell (i := 1) rfl
          have n2 := hq.cell (i := 2) rfl
          have n3 := hq.cell (i := 3) rfl
          have n4 := hq.cell (i := 4) rfl
          have n5 := hq.cell (i := 5) rfl
          clear hq
          go_wp2_with fail
          refine (unhide HR2 _).mono ?_
          rintro e w9 ⟨rfl, hb⟩
          replace HA := hide ((unhide HA).step hb)
          clear hb HR2 m0 m1 m2 m3 m4 m5 n0 n1 n2 n3 n4 n5
          have HW := hide (unhide HA).below
          have hq := (unhide HA).ownV (k := 0) rfl
          have m0 := hq.cell (i := 0) rfl
          have m1 := hq.cell (i := 1) rfl
          have m2 := hq.cell (i := 2) rfl
          have m3 := hq.cell (i := 3) rfl
          have m4 := hq.cell (i := 4) rfl
          have m5 := hq.cell (i := 5) rfl
          clear hq
          have hq := (unhide HA).ownV (k := 1) rfl
          have n0 := hq.cell (i := 0) rfl
          have n1 := hq.cell (i := 1) rfl
          have n2 := hq.cell (i := 2) rfl
          have n3 := hq.cell (i := 3) rfl
          have n4 := hq.cell (i := 4) rfl
          have n5 := hq.cell (i := 5) rfl
          clear hq
          cases u <;> cases v
          · cases hl : decide (ad < cd)
            case true =>
              rw [hl] at HD2
              go_wp2
              go_ret
              exact ⟨ret_int (unhide HD2).symm, unhide HW⟩
            cases hg : decide (cd < ad) <;> (rw [hl, hg] at HD2; go_wp2; go_ret; exact ⟨ret_int (unhide HD2).symm, unhide HW⟩)
          · go_wp2
            go_ret
            exact ⟨ret_int (unhide HD2).symm, unhide HW⟩
          · go_wp2
            go_ret
            exact ⟨ret_int (unhide HD2).symm, unhide HW⟩
          · cases hl : decide (ad < cd)
            case true =>
              rw [hl] at HD2
              go_wp2
              go_ret
              exact ⟨ret_int (unhide HD2).symm, unhide HW⟩
            cases hg : decide (cd < ad) <;> (rw [hl, hg] at HD2; go_wp2; go_ret; exact ⟨ret_int (unhide HD2).symm, unhide HW⟩)
        rw [h1] at HD2
        have HW := hide (unhide HA).below
        go_wp2
        go_ret
        exact ⟨ret_int (unhide HD2).symm, unhide HW⟩

end Go.Proofs.Ytmgcpllkielpkaa

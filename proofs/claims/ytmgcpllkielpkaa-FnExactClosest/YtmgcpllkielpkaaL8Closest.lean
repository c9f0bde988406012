/- The law of Closest, walked. Written by wip/mkexact8.py. -/
import Derived.Test.YtmgcpllkielpkaaRrMs
import Derived.Test.YtmgcpllkielpkaaFlatA
import Derived.Test.YtmgcpllkielpkaaRgI
namespace Go.Proofs.Ytmgcpllkielpkaa
open Go.RowKit

def ELaClosest (ax ay au av ak ad cx cy cu cv ck cd ta tb fa fb : Int) (_b : Bool) (w : World) (L : Nat → Bool) (us : Nat → Value) : Nat → Option (Nat × List Value)
  | 0 => some (w.heap.size, [.int .i64 ax, .int .i64 ay, .int .i64 au, .int .i64 av, .int .i64 ak, .int .i64 ad])
  | 1 => some (w.heap.size + 1, [.int .i64 cx, .int .i64 cy, .int .i64 cu, .int .i64 cv, .int .i64 ck, .int .i64 cd])
  | 2 => if L 9 then some ((gOf (us 5)), (if L 11 then [.int .i64 ta, .int .i64 tb] else [.int .i64 0, .int .i64 0])) else none
  | 3 => if L 10 then some ((gOf (us 6)), (if L 12 then [.int .i64 fa, .int .i64 fb] else [.int .i64 0, .int .i64 0])) else none
  | _ => none
def FLaClosest (ax ay au av ak ad cx cy cu cv ck cd ta tb fa fb : Int) (b : Bool) : FL := [(0, 12, vShip ax ay au av ak ad), (1, 13, vShip ax ay au av ak ad), (2, 14, vShip cx cy cu cv ck cd), (3, 15, vShip cx cy cu cv ck cd), (4, 16, .tuple #[vV ta tb, vV fa fb, .bool b]), (5, 11, .tuple #[vV ta tb, vV fa fb, .bool b]), (6, 17, vV ta tb), (7, 18, vV fa fb), (8, 19, .bool b), (13, 7, .bool b)]
def RLaClosest (ax ay au av ak ad cx cy cu cv ck cd ta tb fa fb : Int) (b : Bool) (w : World) (L : Nat → Bool) (us : Nat → Value) (W : World) : Prop :=
  Facts L us (FLaClosest ax ay au av ak ad cx cy cu cv ck cd ta tb fa fb b) ∧ (L 9 = true → us 5 = .pointer (some ⟨gOf (us 5), 0, none⟩)) ∧ (L 10 = true → us 6 = .pointer (some ⟨gOf (us 6), 0, none⟩)) ∧ (L 11 = true → L 9 = true) ∧ (L 12 = true → L 10 = true) ∧ Bk w W (ELaClosest ax ay au av ak ad cx cy cu cv ck cd ta tb fa fb b w L us)
def XLaClosest (ax ay au av ak ad cx cy cu cv ck cd ta tb fa fb : Int) (_b : Bool) (w : World) (g5 g6 : Nat) : Nat → Option (Nat × List Value)
  | 0 => some (w.heap.size, [.int .i64 ax, .int .i64 ay, .int .i64 au, .int .i64 av, .int .i64 ak, .int .i64 ad])
  | 1 => some (w.heap.size + 1, [.int .i64 cx, .int .i64 cy, .int .i64 cu, .int .i64 cv, .int .i64 ck, .int .i64 cd])
  | 2 => some (g5, [.int .i64 ta, .int .i64 tb])
  | 3 => some (g6, [.int .i64 fa, .int .i64 fb])
  | _ => none
def ELbClosest (ax ay au av ak ad cx cy cu cv ck cd ta tb fa fb : Int) (_b : Bool) (g5 g6 : Nat) (w : World) (L : Nat → Bool) (us : Nat → Value) : Nat → Option (Nat × List Value)
  | 0 => some (w.heap.size, [.int .i64 ax, .int .i64 ay, .int .i64 au, .int .i64 av, .int .i64 ak, .int .i64 ad])
  | 1 => some (w.heap.size + 1, [.int .i64 cx, .int .i64 cy, .int .i64 cu, .int .i64 cv, .int .i64 ck, .int .i64 cd])
  | 2 => some (g5, [.int .i64 ta, .int .i64 tb])
  | 3 => some (g6, [.int .i64 fa, .int .i64 fb])
  | 4 => if L 9 then some ((gOf (us 8)), (if L 11 then [.int .i64 ta, .int .i64 tb] else [.int .i64 0, .int .i64 0])) else none
  | 5 => if L 10 then some ((gOf (us 9)), (if L 12 then [.int .i64 fa, .int .i64 fb] else [.int .i64 0, .int .i64 0])) else none
  | _ => none
def FLbClosest (ax ay au av ak ad cx cy cu cv ck cd ta tb fa fb : Int) (b : Bool) (_g5 _g6 : Nat) : FL := [(0, 21, vShip ax ay au av ak ad), (1, 22, vShip ax ay au av ak ad), (2, 23, vShip cx cy cu cv ck cd), (3, 24, vShip cx cy cu cv ck cd), (4, 25, .tuple #[vV ta tb, vV fa fb, .bool b]), (5, 20, .tuple #[vV ta tb, vV fa fb, .bool b]), (6, 26, vV ta tb), (7, 27, vV fa fb), (8, 28, .bool b), (13, 10, .bool b)]
def RLbClosest (ax ay au av ak ad cx cy cu cv ck cd ta tb fa fb : Int) (b : Bool) (g5 g6 : Nat) (w : World) (L : Nat → Bool) (us : Nat → Value) (W : World) : Prop :=
  Facts L us (FLbClosest ax ay au av ak ad cx cy cu cv ck cd ta tb fa fb b g5 g6) ∧ (L 9 = true → us 8 = .pointer (some ⟨gOf (us 8), 0, none⟩)) ∧ (L 10 = true → us 9 = .pointer (some ⟨gOf (us 9), 0, none⟩)) ∧ (L 11 = true → L 9 = true) ∧ (L 12 = true → L 10 = true) ∧ Bk w W (ELbClosest ax ay au av ak ad cx cy cu cv ck cd ta tb fa fb b g5 g6 w L us)
def XLbClosest (ax ay au av ak ad cx cy cu cv ck cd ta tb fa fb : Int) (_b : Bool) (g5 g6 : Nat) (w : World) (g8 g9 : Nat) : Nat → Option (Nat × List Value)
  | 0 => some (w.heap.size, [.int .i64 ax, .int .i64 ay, .int .i64 au, .int .i64 av, .int .i64 ak, .int .i64 ad])
  | 1 => some (w.heap.size + 1, [.int .i64 cx, .int .i64 cy, .int .i64 cu, .int .i64 cv, .int .i64 ck, .int .i64 cd])
  | 2 => some (g5, [.int .i64 ta, .int .i64 tb])
  | 3 => some (g6, [.int .i64 fa, .int .i64 fb])
  | 4 => some (g8, [.int .i64 ta, .int .i64 tb])
  | 5 => some (g9, [.int .i64 fa, .int .i64 fb])
  | _ => none
set_option maxRecDepth 10000 in
set_option maxHeartbeats 3200000 in
theorem lawClosest_any (ax ay au av ak ad cx cy cu cv ck cd : Int) (w : World) : Calls Try.prog 6 #[vShip ax ay au av ak ad, vShip cx cy cu cv ck cd] w fun e w' => e = .returned (.bool true) ∧ Below w.heap.size w w' := by
  have HB := hide (bk_two w #[.int .i64 ax, .int .i64 ay, .int .i64 au, .int .i64 av, .int .i64 ak, .int .i64 ad] #[.int .i64 cx, .int .i64 cy, .int .i64 cu, .int .i64 cv, .int .i64 ck, .int .i64 cd] 42 42)
  have HT1 := hide fun W => toShip_any ax ay au av ak ad W
  have HT2 := hide fun W => toShip_any cx cy cu cv ck cd W
  have HS := hide fun W => specClosest_any ax ay au av ak ad cx cy cu cv ck cd W
  have HI := hide fun W => implClosest_any ax ay au av ak ad cx cy cu cv ck cd W
  generalize clsT ax ay au av ak ad cx cy cu cv ck cd = LT at HS HI
  generalize clsF ax ay au av ak ad cx cy cu cv ck cd = LF at HS HI
  generalize clsB ax ay au av ak ad cx cy cu cv ck cd = b at HS HI
  obtain ⟨ta, tb⟩ := LT
  obtain ⟨fa, fb⟩ := LF
  have HE1 := hide fun W => eqFrac_any ta tb W
  have HE2 := hide fun W => eqFrac_any fa fb W
  dsimp only [v2] at HS HI HE1 HE2
  unfold vShip
  go_enter Try.func6, Try.ntmps6
  go_wp2_with fail
  have HB0 : Hid (∀ us, Bk w _ (ELaClosest ax ay au av ak ad cx cy cu cv ck cd ta tb fa fb b w (fun _ => false) us)) := hide (fun us => ((unhide HB)).congr (fun k => by rcases k with _ | _ | _ | _ | k <;> simp [ELaClosest, E2]))
  refine wp_region_slots [12, 13, 14, 15, 16, 11, 17, 18, 19, 5, 6, 7] (RLaClosest ax ay au av ak ad cx cy cu cv ck cd ta tb fa fb b w) (by kernel_rfl) (by kernel_rfl) (by decide) (by kernel_rfl) ?_ ?_ ?_
  · intro us
    exact ⟨facts_start us _, fun h => (by cases h), fun h => (by cases h), fun h => (by cases h), fun h => (by cases h), (unhide HB0 us).drew⟩
  · clear HB0
    refine StepsR.cons 1 rfl ?_ ?_
    · intro L us W hi hdep hR Kx hNx
      have hF := hide hR.1
      have f9 := hide hR.2.1
      have f10 := hide hR.2.2.1
      have f11 := hide hR.2.2.2.1
      have f12 := hide hR.2.2.2.2.1
      have hB := hR.2.2.2.2.2
      clear hR
      clear hdep
      have hE : ELaClosest ax ay au av ak ad cx cy cu cv ck cd ta tb fa fb b w L us 0 = some (w.heap.size, [.int .i64 ax, .int .i64 ay, .int .i64 au, .int .i64 av, .int .i64 ak, .int .i64 ad]) := by simp [ELaClosest]
      have hO := hB.ownV hE
      have c0 := hO.cell (i := 0) rfl
      have c1 := hO.cell (i := 1) rfl
      have c2 := hO.cell (i := 2) rfl
      have c3 := hO.cell (i := 3) rfl
      have c4 := hO.cell (i := 4) rfl
      have c5 := hO.cell (i := 5) rfl
      clear hO
      have HB := hide hB
      clear hB
      have HE := hide hE
      clear hE
      simp only [fillA, Act.put, List.setIfInBounds_toArray, List.set_cons_zero, List.set_cons_succ] at hNx ⊢
      rw [if_pos (by rfl)]
      go_simp
      first | refine hNx _ _ ?_ | skip
      exact ⟨(unhide hF).step rfl rfl, keepG (unhide f9) (by decide) (by decide), keepG (unhide f10) (by decide) (by decide), keepL (unhide f11) (by decide), keepL (unhide f12) (by decide), (unhide HB).congr (fun k => by rcases k with _ | _ | _ | _ | k <;> simp [ELaClosest])⟩
    refine StepsR.cons 2 rfl ?_ ?_
    · intro L us W hi hdep hR Kx hNx
      have hF := hide hR.1
      have f9 := hide hR.2.1
      have f10 := hide hR.2.2.1
      have f11 := hide hR.2.2.2.1
      have f12 := hide hR.2.2.2.2.1
      have hB := hR.2.2.2.2.2
      clear hR
      have d0 : L 0 = true := hdep 0 (by kernel_rfl)
      clear hdep
      have e12 : us 12 = vShip ax ay au av ak ad := (unhide hF).get (k := 0) rfl d0
      have HB := hide hB
      clear hB
      simp only [fillA, Act.put, List.setIfInBounds_toArray, List.set_cons_zero, List.set_cons_succ] at hNx ⊢
      simp only [e12] at hNx ⊢
      clear e12
      rw [if_pos (by rfl)]
      have HC := hide (unhide HT1 W)
      go_simp
      refine (unhide HC).mono ?_
      rintro e W' ⟨rfl, hb⟩
      replace HB := hide ((unhide HB).step hb)
      clear hb HC
      go_wp2_with fail
      first | refine hNx _ _ ?_ | skip
      exact ⟨(unhide hF).step rfl rfl, keepG (unhide f9) (by decide) (by decide), keepG (unhide f10) (by decide) (by decide), keepL (unhide f11) (by decide), keepL (unhide f12) (by decide), (unhide HB).congr (fun k => by rcases k with _ | _ | _ | _ | k <;> simp [ELaClosest])⟩
    refine StepsR.cons 3 rfl ?_ ?_
    · intro L us W hi hdep hR Kx hNx
      have hF := hide hR.1
      have f9 := hide hR.2.1
      have f10 := hide hR.2.2.1
      have f11 := hide hR.2.2.2.1
      have f12 := hide hR.2.2.2.2.1
      have hB := hR.2.2.2.2.2
      clear hR
      clear hdep
      have hE : ELaClosest ax ay au av ak ad cx cy cu cv ck cd ta tb fa fb b w L us 1 = some (w.heap.size + 1, [.int .i64 cx, .int .i64 cy, .int .i64 cu, .int .i64 cv, .int .i64 ck, .int .i64 cd]) := by simp [ELaClosest]
      have hO := hB.ownV hE
      have c0 := hO.cell (i := 0) rfl
      have c1 := hO.cell (i := 1) rfl
      have c2 := hO.cell (i := 2) rfl
      have c3 := hO.cell (i := 3) rfl
      have c4 := hO.cell (i := 4) rfl
      have c5 := hO.cell (i := 5) rfl
      clear hO
      have HB := hide hB
      clear hB
      have HE := hide hE
      clear hE
      simp only [fillA, Act.put, List.setIfInBounds_toArray, List.set_cons_zero, List.set_cons_succ] at hNx ⊢
      rw [if_pos (by rfl)]
      go_simp
      first | refine hNx _ _ ?_ | skip
      exact ⟨(unhide hF).step rfl rfl, keepG (unhide f9) (by decide) (by decide), keepG (unhide f10) (by decide) (by decide), keepL (unhide f11) (by decide), keepL (unhide f12) (by decide), (unhide HB).congr (fun k => by rcases k with _ | _ | _ | _ | k <;> simp [ELaClosest])⟩
    refine StepsR.cons 4 rfl ?_ ?_
    · intro L us W hi hdep hR Kx hNx
      have hF := hide hR.1
      have f9 := hide hR.2.1
      have f10 := hide hR.2.2.1
      have f11 := hide hR.2.2.2.1
      have f12 := hide hR.2.2.2.2.1
      have hB := hR.2.2.2.2.2
      clear hR
      have d2 : L 2 = true := hdep 2 (by kernel_rfl)
      clear hdep
      have e14 : us 14 = vShip cx cy cu cv ck cd := (unhide hF).get (k := 2) rfl d2
      have HB := hide hB
      clear hB
      simp only [fillA, Act.put, List.setIfInBounds_toArray, List.set_cons_zero, List.set_cons_succ] at hNx ⊢
      simp only [e14] at hNx ⊢
      clear e14
      rw [if_pos (by rfl)]
      have HC := hide (unhide HT2 W)
      go_simp
      refine (unhide HC).mono ?_
      rintro e W' ⟨rfl, hb⟩
      replace HB := hide ((unhide HB).step hb)
      clear hb HC
      go_wp2_with fail
      first | refine hNx _ _ ?_ | skip
      exact ⟨(unhide hF).step rfl rfl, keepG (unhide f9) (by decide) (by decide), keepG (unhide f10) (by decide) (by decide), keepL (unhide f11) (by decide), keepL (unhide f12) (by decide), (unhide HB).congr (fun k => by rcases k with _ | _ | _ | _ | k <;> simp [ELaClosest])⟩
    refine StepsR.cons 5 rfl ?_ ?_
    · intro L us W hi hdep hR Kx hNx
      have hF := hide hR.1
      have f9 := hide hR.2.1
      have f10 := hide hR.2.2.1
      have f11 := hide hR.2.2.2.1
      have f12 := hide hR.2.2.2.2.1
      have hB := hR.2.2.2.2.2
      clear hR
      have d1 : L 1 = true := hdep 1 (by kernel_rfl)
      have d3 : L 3 = true := hdep 3 (by kernel_rfl)
      clear hdep
      have e13 : us 13 = vShip ax ay au av ak ad := (unhide hF).get (k := 1) rfl d1
      have e15 : us 15 = vShip cx cy cu cv ck cd := (unhide hF).get (k := 3) rfl d3
      have HB := hide hB
      clear hB
      simp only [fillA, Act.put, List.setIfInBounds_toArray, List.set_cons_zero, List.set_cons_succ] at hNx ⊢
      simp only [e13, e15] at hNx ⊢
      clear e13 e15
      rw [if_pos (by rfl)]
      have HC := hide (unhide HS W)
      go_simp
      refine (unhide HC).mono ?_
      rintro e W' ⟨rfl, hb⟩
      replace HB := hide ((unhide HB).step hb)
      clear hb HC
      go_wp2_with fail
      first | refine hNx _ _ ?_ | skip
      exact ⟨(unhide hF).step rfl rfl, keepG (unhide f9) (by decide) (by decide), keepG (unhide f10) (by decide) (by decide), keepL (unhide f11) (by decide), keepL (unhide f12) (by decide), (unhide HB).congr (fun k => by rcases k with _ | _ | _ | _ | k <;> simp [ELaClosest])⟩
    refine StepsR.cons 6 rfl ?_ ?_
    · intro L us W hi hdep hR Kx hNx
      have hF := hide hR.1
      have f9 := hide hR.2.1
      have f10 := hide hR.2.2.1
      have f11 := hide hR.2.2.2.1
      have f12 := hide hR.2.2.2.2.1
      have hB := hR.2.2.2.2.2
      clear hR
      have d4 : L 4 = true := hdep 4 (by kernel_rfl)
      clear hdep
      have e16 : us 16 = .tuple #[vV ta tb, vV fa fb, .bool b] := (unhide hF).get (k := 4) rfl d4
      have HB := hide hB
      clear hB
      simp only [fillA, Act.put, List.setIfInBounds_toArray, List.set_cons_zero, List.set_cons_succ] at hNx ⊢
      simp only [e16] at hNx ⊢
      clear e16
      rw [if_pos (by rfl)]
      go_simp
      first | refine hNx _ _ ?_ | skip
      exact ⟨(unhide hF).step rfl rfl, keepG (unhide f9) (by decide) (by decide), keepG (unhide f10) (by decide) (by decide), keepL (unhide f11) (by decide), keepL (unhide f12) (by decide), (unhide HB).congr (fun k => by rcases k with _ | _ | _ | _ | k <;> simp [ELaClosest])⟩
    refine StepsR.cons 7 rfl ?_ ?_
    · intro L us W hi hdep hR Kx hNx
      have hF := hide hR.1
      have f9 := hide hR.2.1
      have f10 := hide hR.2.2.1
      have f11 := hide hR.2.2.2.1
      have f12 := hide hR.2.2.2.2.1
      have hB := hR.2.2.2.2.2
      clear hR
      have d5 : L 5 = true := hdep 5 (by kernel_rfl)
      clear hdep
      have e11 : us 11 = .tuple #[vV ta tb, vV fa fb, .bool b] := (unhide hF).get (k := 5) rfl d5
      have HB := hide hB
      clear hB
      simp only [fillA, Act.put, List.setIfInBounds_toArray, List.set_cons_zero, List.set_cons_succ] at hNx ⊢
      simp only [e11] at hNx ⊢
      clear e11
      rw [if_pos (by rfl)]
      go_simp
      first | refine hNx _ _ ?_ | skip
      exact ⟨(unhide hF).step rfl rfl, keepG (unhide f9) (by decide) (by decide), keepG (unhide f10) (by decide) (by decide), keepL (unhide f11) (by decide), keepL (unhide f12) (by decide), (unhide HB).congr (fun k => by rcases k with _ | _ | _ | _ | k <;> simp [ELaClosest])⟩
    refine StepsR.cons 8 rfl ?_ ?_
    · intro L us W hi hdep hR Kx hNx
      have hF := hide hR.1
      have f9 := hide hR.2.1
      have f10 := hide hR.2.2.1
      have f11 := hide hR.2.2.2.1
      have f12 := hide hR.2.2.2.2.1
      have hB := hR.2.2.2.2.2
      clear hR
      have d5 : L 5 = true := hdep 5 (by kernel_rfl)
      clear hdep
      have e11 : us 11 = .tuple #[vV ta tb, vV fa fb, .bool b] := (unhide hF).get (k := 5) rfl d5
      have HB := hide hB
      clear hB
      simp only [fillA, Act.put, List.setIfInBounds_toArray, List.set_cons_zero, List.set_cons_succ] at hNx ⊢
      simp only [e11] at hNx ⊢
      clear e11
      rw [if_pos (by rfl)]
      go_simp
      first | refine hNx _ _ ?_ | skip
      exact ⟨(unhide hF).step rfl rfl, keepG (unhide f9) (by decide) (by decide), keepG (unhide f10) (by decide) (by decide), keepL (unhide f11) (by decide), keepL (unhide f12) (by decide), (unhide HB).congr (fun k => by rcases k with _ | _ | _ | _ | k <;> simp [ELaClosest])⟩
    refine StepsR.cons 9 rfl ?_ ?_
    · intro L us W hi hdep hR Kx hNx
      have hF := hide hR.1
      have f9 := hide hR.2.1
      have f10 := hide hR.2.2.1
      have f11 := hide hR.2.2.2.1
      have f12 := hide hR.2.2.2.2.1
      have hB := hR.2.2.2.2.2
      clear hR
      have d5 : L 5 = true := hdep 5 (by kernel_rfl)
      clear hdep
      have e11 : us 11 = .tuple #[vV ta tb, vV fa fb, .bool b] := (unhide hF).get (k := 5) rfl d5
      have HB := hide hB
      clear hB
      simp only [fillA, Act.put, List.setIfInBounds_toArray, List.set_cons_zero, List.set_cons_succ] at hNx ⊢
      simp only [e11] at hNx ⊢
      clear e11
      rw [if_pos (by rfl)]
      go_simp
      first | refine hNx _ _ ?_ | skip
      exact ⟨(unhide hF).step rfl rfl, keepG (unhide f9) (by decide) (by decide), keepG (unhide f10) (by decide) (by decide), keepL (unhide f11) (by decide), keepL (unhide f12) (by decide), (unhide HB).congr (fun k => by rcases k with _ | _ | _ | _ | k <;> simp [ELaClosest])⟩
    refine StepsR.cons 10 rfl ?_ ?_
    · intro L us W hi hdep hR Kx hNx
      have hF := hide hR.1
      have f9 := hide hR.2.1
      have f10 := hide hR.2.2.1
      have f11 := hide hR.2.2.2.1
      have f12 := hide hR.2.2.2.2.1
      have hB := hR.2.2.2.2.2
      clear hR
      clear hdep
      have HB := hide hB
      clear hB
      simp only [fillA, Act.put, List.setIfInBounds_toArray, List.set_cons_zero, List.set_cons_succ] at hNx ⊢
      rw [if_pos (by rfl)]
      have A1 := hide ((unhide HB).made 2 #[.int .i64 0, .int .i64 0] 36)
      go_simp
      first | refine hNx _ _ ?_ | skip
      have nst : L 11 = false := notL (unhide f11) hi
      exact ⟨(unhide hF).stepO rfl, newG, keepG (unhide f10) (by decide) (by decide), keepL (unhide f11) (by decide), keepL (unhide f12) (by decide), (unhide A1).congr (fun k => by rcases k with _ | _ | _ | _ | k <;> simp [ELaClosest, *])⟩
    refine StepsR.cons 11 rfl ?_ ?_
    · intro L us W hi hdep hR Kx hNx
      have hF := hide hR.1
      have f9 := hide hR.2.1
      have f10 := hide hR.2.2.1
      have f11 := hide hR.2.2.2.1
      have f12 := hide hR.2.2.2.2.1
      have hB := hR.2.2.2.2.2
      clear hR
      clear hdep
      have HB := hide hB
      clear hB
      simp only [fillA, Act.put, List.setIfInBounds_toArray, List.set_cons_zero, List.set_cons_succ] at hNx ⊢
      rw [if_pos (by rfl)]
      have A1 := hide ((unhide HB).made 3 #[.int .i64 0, .int .i64 0] 36)
      go_simp
      first | refine hNx _ _ ?_ | skip
      have nst : L 12 = false := notL (unhide f12) hi
      exact ⟨(unhide hF).stepO rfl, keepG (unhide f9) (by decide) (by decide), newG, keepL (unhide f11) (by decide), keepL (unhide f12) (by decide), (unhide A1).congr (fun k => by rcases k with _ | _ | _ | _ | k <;> simp [ELaClosest, *])⟩
    refine StepsR.cons 12 rfl ?_ ?_
    · intro L us W hi hdep hR Kx hNx
      have hF := hide hR.1
      have f9 := hide hR.2.1
      have f10 := hide hR.2.2.1
      have f11 := hide hR.2.2.2.1
      have f12 := hide hR.2.2.2.2.1
      have hB := hR.2.2.2.2.2
      clear hR
      have d6 : L 6 = true := hdep 6 (by kernel_rfl)
      have d9 : L 9 = true := hdep 9 (by kernel_rfl)
      clear hdep
      have hE : ELaClosest ax ay au av ak ad cx cy cu cv ck cd ta tb fa fb b w L us 2 = some ((gOf (us 5)), [.int .i64 0, .int .i64 0]) := by simp [ELaClosest, *]
      have e17 : us 17 = vV ta tb := (unhide hF).get (k := 6) rfl d6
      have e5 := unhide f9 d9
      have hO := hB.ownV hE
      have c0 := hO.cell (i := 0) rfl
      have c1 := hO.cell (i := 1) rfl
      have z0 := hO.frozen 0
      have z1 := hO.frozen 1
      clear hO
      have HB := hide hB
      clear hB
      have HE := hide hE
      clear hE
      simp only [fillA, Act.put, List.setIfInBounds_toArray, List.set_cons_zero, List.set_cons_succ] at hNx ⊢
      simp only [e17] at hNx ⊢
      rw [e5] at hNx ⊢
      clear e17 e5
      rw [if_pos (by rfl)]
      have A1 := hide (((unhide HB).set (k := 2) (g := (gOf (us 5))) (vs := [.int .i64 0, .int .i64 0]) (unhide HE) 0 (.int .i64 ta) (by simp)).set (k := 2) (g := (gOf (us 5))) (vs := [.int .i64 ta, .int .i64 0]) (by simp) 1 (.int .i64 tb) (by simp))
      go_simp
      first | refine hNx undef _ ?_ | skip
      exact ⟨(unhide hF).stepN rfl, keepGN (unhide f9) (by decide), keepGN (unhide f10) (by decide), newL d9 (by decide), keepL (unhide f12) (by decide), (unhide A1).congr (fun k => by rcases k with _ | _ | _ | _ | k <;> simp [ELaClosest, *])⟩
    refine StepsR.cons 13 rfl ?_ ?_
    · intro L us W hi hdep hR Kx hNx
      have hF := hide hR.1
      have f9 := hide hR.2.1
      have f10 := hide hR.2.2.1
      have f11 := hide hR.2.2.2.1
      have f12 := hide hR.2.2.2.2.1
      have hB := hR.2.2.2.2.2
      clear hR
      have d7 : L 7 = true := hdep 7 (by kernel_rfl)
      have d10 : L 10 = true := hdep 10 (by kernel_rfl)
      clear hdep
      have hE : ELaClosest ax ay au av ak ad cx cy cu cv ck cd ta tb fa fb b w L us 3 = some ((gOf (us 6)), [.int .i64 0, .int .i64 0]) := by simp [ELaClosest, *]
      have e18 : us 18 = vV fa fb := (unhide hF).get (k := 7) rfl d7
      have e6 := unhide f10 d10
      have hO := hB.ownV hE
      have c0 := hO.cell (i := 0) rfl
      have c1 := hO.cell (i := 1) rfl
      have z0 := hO.frozen 0
      have z1 := hO.frozen 1
      clear hO
      have HB := hide hB
      clear hB
      have HE := hide hE
      clear hE
      simp only [fillA, Act.put, List.setIfInBounds_toArray, List.set_cons_zero, List.set_cons_succ] at hNx ⊢
      simp only [e18] at hNx ⊢
      rw [e6] at hNx ⊢
      clear e18 e6
      rw [if_pos (by rfl)]
      have A1 := hide (((unhide HB).set (k := 3) (g := (gOf (us 6))) (vs := [.int .i64 0, .int .i64 0]) (unhide HE) 0 (.int .i64 fa) (by simp)).set (k := 3) (g := (gOf (us 6))) (vs := [.int .i64 fa, .int .i64 0]) (by simp) 1 (.int .i64 fb) (by simp))
      go_simp
      first | refine hNx undef _ ?_ | skip
      exact ⟨(unhide hF).stepN rfl, keepGN (unhide f9) (by decide), keepGN (unhide f10) (by decide), keepL (unhide f11) (by decide), newL d10 (by decide), (unhide A1).congr (fun k => by rcases k with _ | _ | _ | _ | k <;> simp [ELaClosest, *])⟩
    refine StepsR.cons 14 rfl ?_ ?_
    · intro L us W hi hdep hR Kx hNx
      have hF := hide hR.1
      have f9 := hide hR.2.1
      have f10 := hide hR.2.2.1
      have f11 := hide hR.2.2.2.1
      have f12 := hide hR.2.2.2.2.1
      have hB := hR.2.2.2.2.2
      clear hR
      have d8 : L 8 = true := hdep 8 (by kernel_rfl)
      clear hdep
      have e19 : us 19 = .bool b := (unhide hF).get (k := 8) rfl d8
      have HB := hide hB
      clear hB
      simp only [fillA, Act.put, List.setIfInBounds_toArray, List.set_cons_zero, List.set_cons_succ] at hNx ⊢
      simp only [e19] at hNx ⊢
      clear e19
      rw [if_pos (by rfl)]
      go_simp
      first | refine hNx _ _ ?_ | skip
      exact ⟨(unhide hF).step rfl rfl, keepG (unhide f9) (by decide) (by decide), keepG (unhide f10) (by decide) (by decide), keepL (unhide f11) (by decide), keepL (unhide f12) (by decide), (unhide HB).congr (fun k => by rcases k with _ | _ | _ | _ | k <;> simp [ELaClosest])⟩
    exact StepsR.nil
  · intro L us W hL hR
    have hF := hide hR.1
    have f9 := hide hR.2.1
    have f10 := hide hR.2.2.1
    have f11 := hide hR.2.2.2.1
    have f12 := hide hR.2.2.2.2.1
    have hB := hR.2.2.2.2.2
    clear hR
    have l9 := hL 9 (by decide)
    have l10 := hL 10 (by decide)
    have l11 := hL 11 (by decide)
    have l12 := hL 12 (by decide)
    have hE0 : ELaClosest ax ay au av ak ad cx cy cu cv ck cd ta tb fa fb b w L us 0 = some (w.heap.size, [.int .i64 ax, .int .i64 ay, .int .i64 au, .int .i64 av, .int .i64 ak, .int .i64 ad]) := by simp [ELaClosest]
    have hO0 := hB.ownV hE0
    have hE1 : ELaClosest ax ay au av ak ad cx cy cu cv ck cd ta tb fa fb b w L us 1 = some (w.heap.size + 1, [.int .i64 cx, .int .i64 cy, .int .i64 cu, .int .i64 cv, .int .i64 ck, .int .i64 cd]) := by simp [ELaClosest]
    have hO1 := hB.ownV hE1
    have hE2 : ELaClosest ax ay au av ak ad cx cy cu cv ck cd ta tb fa fb b w L us 2 = some ((gOf (us 5)), [.int .i64 ta, .int .i64 tb]) := by simp [ELaClosest, *]
    have hO2 := hB.ownV hE2
    have hE3 : ELaClosest ax ay au av ak ad cx cy cu cv ck cd ta tb fa fb b w L us 3 = some ((gOf (us 6)), [.int .i64 fa, .int .i64 fb]) := by simp [ELaClosest, *]
    have hO3 := hB.ownV hE3
    have hg2 := (hB.own 2 _ _ hE2).1
    have ha2_0 := hB.apart 2 0 _ _ _ _ hE2 hE0 (by decide)
    have ha2_1 := hB.apart 2 1 _ _ _ _ hE2 hE1 (by decide)
    have hg3 := (hB.own 3 _ _ hE3).1
    have ha3_0 := hB.apart 3 0 _ _ _ _ hE3 hE0 (by decide)
    have ha3_1 := hB.apart 3 1 _ _ _ _ hE3 hE1 (by decide)
    have ha3_2 := hB.apart 3 2 _ _ _ _ hE3 hE2 (by decide)
    clear hE0 hE1 hE2 hE3
    have HA : Hid (Bk w W (XLaClosest ax ay au av ak ad cx cy cu cv ck cd ta tb fa fb b w (gOf (us 5)) (gOf (us 6)))) := hide (hB.congr (fun k => by rcases k with _ | _ | _ | _ | k <;> simp [ELaClosest, XLaClosest, *]))
    have f0 : us 12 = vShip ax ay au av ak ad := (unhide hF).get (k := 0) rfl (hL 0 (by decide))
    have f1 : us 13 = vShip ax ay au av ak ad := (unhide hF).get (k := 1) rfl (hL 1 (by decide))
    have f2 : us 14 = vShip cx cy cu cv ck cd := (unhide hF).get (k := 2) rfl (hL 2 (by decide))
    have f3 : us 15 = vShip cx cy cu cv ck cd := (unhide hF).get (k := 3) rfl (hL 3 (by decide))
    have f4 : us 16 = .tuple #[vV ta tb, vV fa fb, .bool b] := (unhide hF).get (k := 4) rfl (hL 4 (by decide))
    have f5 : us 11 = .tuple #[vV ta tb, vV fa fb, .bool b] := (unhide hF).get (k := 5) rfl (hL 5 (by decide))
    have f6 : us 17 = vV ta tb := (unhide hF).get (k := 6) rfl (hL 6 (by decide))
    have f7 : us 18 = vV fa fb := (unhide hF).get (k := 7) rfl (hL 7 (by decide))
    have f8 : us 19 = .bool b := (unhide hF).get (k := 8) rfl (hL 8 (by decide))
    replace f9 := unhide f9 (hL 9 (by decide))
    replace f10 := unhide f10 (hL 10 (by decide))
    have f13 : us 7 = .bool b := (unhide hF).get (k := 13) rfl (hL 13 (by decide))
    have HW := hide hB.below
    clear hB hL l9 l10 l11 l12
    simp only [fillA, Act.put, List.setIfInBounds_toArray, List.set_cons_zero, List.set_cons_succ]
    simp only [f0, f1, f2, f3, f4, f5, f6, f7, f8, f13]
    rw [f9]
    rw [f10]
    clear hF f0 f1 f2 f3 f4 f5 f6 f7 f8 f9 f10 f11 f12 f13
    generalize gOf (us 5) = g5 at *
    generalize gOf (us 6) = g6 at *
    clear us L
    clear hO0 hO1 hO2 hO3 hg2 hg3 ha2_0 ha2_1 ha3_0 ha3_1 ha3_2 HB HW
    go_wp2_with fail
    have HB0 : Hid (∀ us, Bk w _ (ELbClosest ax ay au av ak ad cx cy cu cv ck cd ta tb fa fb b g5 g6 w (fun _ => false) us)) := hide (fun us => ((unhide HA)).congr (fun k => by rcases k with _ | _ | _ | _ | _ | _ | k <;> simp [ELbClosest, XLaClosest]))
    refine wp_region_slots [21, 22, 23, 24, 25, 20, 26, 27, 28, 8, 9, 10] (RLbClosest ax ay au av ak ad cx cy cu cv ck cd ta tb fa fb b g5 g6 w) (by kernel_rfl) (by kernel_rfl) (by decide) (by kernel_rfl) ?_ ?_ ?_
    · intro us
      exact ⟨facts_start us _, fun h => (by cases h), fun h => (by cases h), fun h => (by cases h), fun h => (by cases h), (unhide HB0 us).drew⟩
    · clear HB0
      refine StepsR.cons 1 rfl ?_ ?_
      · intro L us W hi hdep hR Kx hNx
        have hF := hide hR.1
        have f9 := hide hR.2.1
        have f10 := hide hR.2.2.1
        have f11 := hide hR.2.2.2.1
        have f12 := hide hR.2.2.2.2.1
        have hB := hR.2.2.2.2.2
        clear hR
        clear hdep
        have hE : ELbClosest ax ay au av ak ad cx cy cu cv ck cd ta tb fa fb b g5 g6 w L us 0 = some (w.heap.size, [.int .i64 ax, .int .i64 ay, .int .i64 au, .int .i64 av, .int .i64 ak, .int .i64 ad]) := by simp [ELbClosest]
        have hO := hB.ownV hE
        have c0 := hO.cell (i := 0) rfl
        have c1 := hO.cell (i := 1) rfl
        have c2 := hO.cell (i := 2) rfl
        have c3 := hO.cell (i := 3) rfl
        have c4 := hO.cell (i := 4) rfl
        have c5 := hO.cell (i := 5) rfl
        clear hO
        have HB := hide hB
        clear hB
        have HE := hide hE
        clear hE
        simp only [fillA, Act.put, List.setIfInBounds_toArray, List.set_cons_zero, List.set_cons_succ] at hNx ⊢
        rw [if_pos (by rfl)]
        go_simp
        first | refine hNx _ _ ?_ | skip
        exact ⟨(unhide hF).step rfl rfl, keepG (unhide f9) (by decide) (by decide), keepG (unhide f10) (by decide) (by decide), keepL (unhide f11) (by decide), keepL (unhide f12) (by decide), (unhide HB).congr (fun k => by rcases k with _ | _ | _ | _ | _ | _ | k <;> simp [ELbClosest])⟩
      refine StepsR.cons 2 rfl ?_ ?_
      · intro L us W hi hdep hR Kx hNx
        have hF := hide hR.1
        have f9 := hide hR.2.1
        have f10 := hide hR.2.2.1
        have f11 := hide hR.2.2.2.1
        have f12 := hide hR.2.2.2.2.1
        have hB := hR.2.2.2.2.2
        clear hR
        have d0 : L 0 = true := hdep 0 (by kernel_rfl)
        clear hdep
        have e21 : us 21 = vShip ax ay au av ak ad := (unhide hF).get (k := 0) rfl d0
        have HB := hide hB
        clear hB
        simp only [fillA, Act.put, List.setIfInBounds_toArray, List.set_cons_zero, List.set_cons_succ] at hNx ⊢
        simp only [e21] at hNx ⊢
        clear e21
        rw [if_pos (by rfl)]
        have HC := hide (unhide HT1 W)
        go_simp
        refine (unhide HC).mono ?_
        rintro e W' ⟨rfl, hb⟩
        replace HB := hide ((unhide HB).step hb)
        clear hb HC
        go_wp2_with fail
        first | refine hNx _ _ ?_ | skip
        exact ⟨(unhide hF).step rfl rfl, keepG (unhide f9) (by decide) (by decide), keepG (unhide f10) (by decide) (by decide), keepL (unhide f11) (by decide), keepL (unhide f12) (by decide), (unhide HB).congr (fun k => by rcases k with _ | _ | _ | _ | _ | _ | k <;> simp [ELbClosest])⟩
      refine StepsR.cons 3 rfl ?_ ?_
      · intro L us W hi hdep hR Kx hNx
        have hF := hide hR.1
        have f9 := hide hR.2.1
        have f10 := hide hR.2.2.1
        have f11 := hide hR.2.2.2.1
        have f12 := hide hR.2.2.2.2.1
        have hB := hR.2.2.2.2.2
        clear hR
        clear hdep
        have hE : ELbClosest ax ay au av ak ad cx cy cu cv ck cd ta tb fa fb b g5 g6 w L us 1 = some (w.heap.size + 1, [.int .i64 cx, .int .i64 cy, .int .i64 cu, .int .i64 cv, .int .i64 ck, .int .i64 cd]) := by simp [ELbClosest]
        have hO := hB.ownV hE
        have c0 := hO.cell (i := 0) rfl
        have c1 := hO.cell (i := 1) rfl
        have c2 := hO.cell (i := 2) rfl
        have c3 := hO.cell (i := 3) rfl
        have c4 := hO.cell (i := 4) rfl
        have c5 := hO.cell (i := 5) rfl
        clear hO
        have HB := hide hB
        clear hB
        have HE := hide hE
        clear hE
        simp only [fillA, Act.put, List.setIfInBounds_toArray, List.set_cons_zero, List.set_cons_succ] at hNx ⊢
        rw [if_pos (by rfl)]
        go_simp
        first | refine hNx _ _ ?_ | skip
        exact ⟨(unhide hF).step rfl rfl, keepG (unhide f9) (by decide) (by decide), keepG (unhide f10) (by decide) (by decide), keepL (unhide f11) (by decide), keepL (unhide f12) (by decide), (unhide HB).congr (fun k => by rcases k with _ | _ | _ | _ | _ | _ | k <;> simp [ELbClosest])⟩
      refine StepsR.cons 4 rfl ?_ ?_
      · intro L us W hi hdep hR Kx hNx
        have hF := hide hR.1
        have f9 := hide hR.2.1
        have f10 := hide hR.2.2.1
        have f11 := hide hR.2.2.2.1
        have f12 := hide hR.2.2.2.2.1
        have hB := hR.2.2.2.2.2
        clear hR
        have d2 : L 2 = true := hdep 2 (by kernel_rfl)
        clear hdep
        have e23 : us 23 = vShip cx cy cu cv ck cd := (unhide hF).get (k := 2) rfl d2
        have HB := hide hB
        clear hB
        simp only [fillA, Act.put, List.setIfInBounds_toArray, List.set_cons_zero, List.set_cons_succ] at hNx ⊢
        simp only [e23] at hNx ⊢
        clear e23
        rw [if_pos (by rfl)]
        have HC := hide (unhide HT2 W)
        go_simp
        refine (unhide HC).mono ?_
        rintro e W' ⟨rfl, hb⟩
        replace HB := hide ((unhide HB).step hb)
        clear hb HC
        go_wp2_with fail
        first | refine hNx _ _ ?_ | skip
        exact ⟨(unhide hF).step rfl rfl, keepG (unhide f9) (by decide) (by decide), keepG (unhide f10) (by decide) (by decide), keepL (unhide f11) (by decide), keepL (unhide f12) (by decide), (unhide HB).congr (fun k => by rcases k with _ | _ | _ | _ | _ | _ | k <;> simp [ELbClosest])⟩
      refine StepsR.cons 5 rfl ?_ ?_
      · intro L us W hi hdep hR Kx hNx
        have hF := hide hR.1
        have f9 := hide hR.2.1
        have f10 := hide hR.2.2.1
        have f11 := hide hR.2.2.2.1
        have f12 := hide hR.2.2.2.2.1
        have hB := hR.2.2.2.2.2
        clear hR
        have d1 : L 1 = true := hdep 1 (by kernel_rfl)
        have d3 : L 3 = true := hdep 3 (by kernel_rfl)
        clear hdep
        have e22 : us 22 = vShip ax ay au av ak ad := (unhide hF).get (k := 1) rfl d1
        have e24 : us 24 = vShip cx cy cu cv ck cd := (unhide hF).get (k := 3) rfl d3
        have HB := hide hB
        clear hB
        simp only [fillA, Act.put, List.setIfInBounds_toArray, List.set_cons_zero, List.set_cons_succ] at hNx ⊢
        simp only [e22, e24] at hNx ⊢
        clear e22 e24
        rw [if_pos (by rfl)]
        have HC := hide (unhide HI W)
        go_simp
        refine (unhide HC).mono ?_
        rintro e W' ⟨rfl, hb⟩
        replace HB := hide ((unhide HB).step hb)
        clear hb HC
        go_wp2_with fail
        first | refine hNx _ _ ?_ | skip
        exact ⟨(unhide hF).step rfl rfl, keepG (unhide f9) (by decide) (by decide), keepG (unhide f10) (by decide) (by decide), keepL (unhide f11) (by decide), keepL (unhide f12) (by decide), (unhide HB).congr (fun k => by rcases k with _ | _ | _ | _ | _ | _ | k <;> simp [ELbClosest])⟩
      refine StepsR.cons 6 rfl ?_ ?_
      · intro L us W hi hdep hR Kx hNx
        have hF := hide hR.1
        have f9 := hide hR.2.1
        have f10 := hide hR.2.2.1
        have f11 := hide hR.2.2.2.1
        have f12 := hide hR.2.2.2.2.1
        have hB := hR.2.2.2.2.2
        clear hR
        have d4 : L 4 = true := hdep 4 (by kernel_rfl)
        clear hdep
        have e25 : us 25 = .tuple #[vV ta tb, vV fa fb, .bool b] := (unhide hF).get (k := 4) rfl d4
        have HB := hide hB
        clear hB
        simp only [fillA, Act.put, List.setIfInBounds_toArray, List.set_cons_zero, List.set_cons_succ] at hNx ⊢
        simp only [e25] at hNx ⊢
        clear e25
        rw [if_pos (by rfl)]
        go_simp
        first | refine hNx _ _ ?_ | skip
        exact ⟨(unhide hF).step rfl rfl, keepG (unhide f9) (by decide) (by decide), keepG (unhide f10) (by decide) (by decide), keepL (unhide f11) (by decide), keepL (unhide f12) (by decide), (unhide HB).congr (fun k => by rcases k with _ | _ | _ | _ | _ | _ | k <;> simp [ELbClosest])⟩
      refine StepsR.cons 7 rfl ?_ ?_
      · intro L us W hi hdep hR Kx hNx
        have hF := hide hR.1
        have f9 := hide hR.2.1
        have f10 := hide hR.2.2.1
        have f11 := hide hR.2.2.2.1
        have f12 := hide hR.2.2.2.2.1
        have hB := hR.2.2.2.2.2
        clear hR
        have d5 : L 5 = true := hdep 5 (by kernel_rfl)
        clear hdep
        have e20 : us 20 = .tuple #[vV ta tb, vV fa fb, .bool b] := (unhide hF).get (k := 5) rfl d5
        have HB := hide hB
        clear hB
        simp only [fillA, Act.put, List.setIfInBounds_toArray, List.set_cons_zero, List.set_cons_succ] at hNx ⊢
        simp only [e20] at hNx ⊢
        clear e20
        rw [if_pos (by rfl)]
        go_simp
        first | refine hNx _ _ ?_ | skip
        exact ⟨(unhide hF).step rfl rfl, keepG (unhide f9) (by decide) (by decide), keepG (unhide f10) (by decide) (by decide), keepL (unhide f11) (by decide), keepL (unhide f12) (by decide), (unhide HB).congr (fun k => by rcases k with _ | _ | _ | _ | _ | _ | k <;> simp [ELbClosest])⟩
      refine StepsR.cons 8 rfl ?_ ?_
      · intro L us W hi hdep hR Kx hNx
        have hF := hide hR.1
        have f9 := hide hR.2.1
        have f10 := hide hR.2.2.1
        have f11 := hide hR.2.2.2.1
        have f12 := hide hR.2.2.2.2.1
        have hB := hR.2.2.2.2.2
        clear hR
        have d5 : L 5 = true := hdep 5 (by kernel_rfl)
        clear hdep
        have e20 : us 20 = .tuple #[vV ta tb, vV fa fb, .bool b] := (unhide hF).get (k := 5) rfl d5
        have HB := hide hB
        clear hB
        simp only [fillA, Act.put, List.setIfInBounds_toArray, List.set_cons_zero, List.set_cons_succ] at hNx ⊢
        simp only [e20] at hNx ⊢
        clear e20
        rw [if_pos (by rfl)]
        go_simp
        first | refine hNx _ _ ?_ | skip
        exact ⟨(unhide hF).step rfl rfl, keepG (unhide f9) (by decide) (by decide), keepG (unhide f10) (by decide) (by decide), keepL (unhide f11) (by decide), keepL (unhide f12) (by decide), (unhide HB).congr (fun k => by rcases k with _ | _ | _ | _ | _ | _ | k <;> simp [ELbClosest])⟩
      refine StepsR.cons 9 rfl ?_ ?_
      · intro L us W hi hdep hR Kx hNx
        have hF := hide hR.1
        have f9 := hide hR.2.1
        have f10 := hide hR.2.2.1
        have f11 := hide hR.2.2.2.1
        have f12 := hide hR.2.2.2.2.1
        have hB := hR.2.2.2.2.2
        clear hR
        have d5 : L 5 = true := hdep 5 (by kernel_rfl)
        clear hdep
        have e20 : us 20 = .tuple #[vV ta tb, vV fa fb, .bool b] := (unhide hF).get (k := 5) rfl d5
        have HB := hide hB
        clear hB
        simp only [fillA, Act.put, List.setIfInBounds_toArray, List.set_cons_zero, List.set_cons_succ] at hNx ⊢
        simp only [e20] at hNx ⊢
        clear e20
        rw [if_pos (by rfl)]
        go_simp
        first | refine hNx _ _ ?_ | skip
        exact ⟨(unhide hF).step rfl rfl, keepG (unhide f9) (by decide) (by decide), keepG (unhide f10) (by decide) (by decide), keepL (unhide f11) (by decide), keepL (unhide f12) (by decide), (unhide HB).congr (fun k => by rcases k with _ | _ | _ | _ | _ | _ | k <;> simp [ELbClosest])⟩
      refine StepsR.cons 10 rfl ?_ ?_
      · intro L us W hi hdep hR Kx hNx
        have hF := hide hR.1
        have f9 := hide hR.2.1
        have f10 := hide hR.2.2.1
        have f11 := hide hR.2.2.2.1
        have f12 := hide hR.2.2.2.2.1
        have hB := hR.2.2.2.2.2
        clear hR
        clear hdep
        have HB := hide hB
        clear hB
        simp only [fillA, Act.put, List.setIfInBounds_toArray, List.set_cons_zero, List.set_cons_succ] at hNx ⊢
        rw [if_pos (by rfl)]
        have A1 := hide ((unhide HB).made 4 #[.int .i64 0, .int .i64 0] 36)
        go_simp
        first | refine hNx _ _ ?_ | skip
        have nst : L 11 = false := notL (unhide f11) hi
        exact ⟨(unhide hF).stepO rfl, newG, keepG (unhide f10) (by decide) (by decide), keepL (unhide f11) (by decide), keepL (unhide f12) (by decide), (unhide A1).congr (fun k => by rcases k with _ | _ | _ | _ | _ | _ | k <;> simp [ELbClosest, *])⟩
      refine StepsR.cons 11 rfl ?_ ?_
      · intro L us W hi hdep hR Kx hNx
        have hF := hide hR.1
        have f9 := hide hR.2.1
        have f10 := hide hR.2.2.1
        have f11 := hide hR.2.2.2.1
        have f12 := hide hR.2.2.2.2.1
        have hB := hR.2.2.2.2.2
        clear hR
        clear hdep
        have HB := hide hB
        clear hB
        simp only [fillA, Act.put, List.setIfInBounds_toArray, List.set_cons_zero, List.set_cons_succ] at hNx ⊢
        rw [if_pos (by rfl)]
        have A1 := hide ((unhide HB).made 5 #[.int .i64 0, .int .i64 0] 36)
        go_simp
        first | refine hNx _ _ ?_ | skip
        have nst : L 12 = false := notL (unhide f12) hi
        exact ⟨(unhide hF).stepO rfl, keepG (unhide f9) (by decide) (by decide), newG, keepL (unhide f11) (by decide), keepL (unhide f12) (by decide), (unhide A1).congr (fun k => by rcases k with _ | _ | _ | _ | _ | _ | k <;> simp [ELbClosest, *])⟩
      refine StepsR.cons 12 rfl ?_ ?_
      · intro L us W hi hdep hR Kx hNx
        have hF := hide hR.1
        have f9 := hide hR.2.1
        have f10 := hide hR.2.2.1
        have f11 := hide hR.2.2.2.1
        have f12 := hide hR.2.2.2.2.1
        have hB := hR.2.2.2.2.2
        clear hR
        have d6 : L 6 = true := hdep 6 (by kernel_rfl)
        have d9 : L 9 = true := hdep 9 (by kernel_rfl)
        clear hdep
        have hE : ELbClosest ax ay au av ak ad cx cy cu cv ck cd ta tb fa fb b g5 g6 w L us 4 = some ((gOf (us 8)), [.int .i64 0, .int .i64 0]) := by simp [ELbClosest, *]
        have e26 : us 26 = vV ta tb := (unhide hF).get (k := 6) rfl d6
        have e8 := unhide f9 d9
        have hO := hB.ownV hE
        have c0 := hO.cell (i := 0) rfl
        have c1 := hO.cell (i := 1) rfl
        have z0 := hO.frozen 0
        have z1 := hO.frozen 1
        clear hO
        have HB := hide hB
        clear hB
        have HE := hide hE
        clear hE
        simp only [fillA, Act.put, List.setIfInBounds_toArray, List.set_cons_zero, List.set_cons_succ] at hNx ⊢
        simp only [e26] at hNx ⊢
        rw [e8] at hNx ⊢
        clear e26 e8
        rw [if_pos (by rfl)]
        have A1 := hide (((unhide HB).set (k := 4) (g := (gOf (us 8))) (vs := [.int .i64 0, .int .i64 0]) (unhide HE) 0 (.int .i64 ta) (by simp)).set (k := 4) (g := (gOf (us 8))) (vs := [.int .i64 ta, .int .i64 0]) (by simp) 1 (.int .i64 tb) (by simp))
        go_simp
        first | refine hNx undef _ ?_ | skip
        exact ⟨(unhide hF).stepN rfl, keepGN (unhide f9) (by decide), keepGN (unhide f10) (by decide), newL d9 (by decide), keepL (unhide f12) (by decide), (unhide A1).congr (fun k => by rcases k with _ | _ | _ | _ | _ | _ | k <;> simp [ELbClosest, *])⟩
      refine StepsR.cons 13 rfl ?_ ?_
      · intro L us W hi hdep hR Kx hNx
        have hF := hide hR.1
        have f9 := hide hR.2.1
        have f10 := hide hR.2.2.1
        have f11 := hide hR.2.2.2.1
        have f12 := hide hR.2.2.2.2.1
        have hB := hR.2.2.2.2.2
        clear hR
        have d7 : L 7 = true := hdep 7 (by kernel_rfl)
        have d10 : L 10 = true := hdep 10 (by kernel_rfl)
        clear hdep
        have hE : ELbClosest ax ay au av ak ad cx cy cu cv ck cd ta tb fa fb b g5 g6 w L us 5 = some ((gOf (us 9)), [.int .i64 0, .int .i64 0]) := by simp [ELbClosest, *]
        have e27 : us 27 = vV fa fb := (unhide hF).get (k := 7) rfl d7
        have e9 := unhide f10 d10
        have hO := hB.ownV hE
        have c0 := hO.cell (i := 0) rfl
        have c1 := hO.cell (i := 1) rfl
        have z0 := hO.frozen 0
        have z1 := hO.frozen 1
        clear hO
        have HB := hide hB
        clear hB
        have HE := hide hE
        clear hE
        simp only [fillA, Act.put, List.setIfInBounds_toArray, List.set_cons_zero, List.set_cons_succ] at hNx ⊢
        simp only [e27] at hNx ⊢
        rw [e9] at hNx ⊢
        clear e27 e9
        rw [if_pos (by rfl)]
        have A1 := hide (((unhide HB).set (k := 5) (g := (gOf (us 9))) (vs := [.int .i64 0, .int .i64 0]) (unhide HE) 0 (.int .i64 fa) (by simp)).set (k := 5) (g := (gOf (us 9))) (vs := [.int .i64 fa, .int .i64 0]) (by simp) 1 (.int .i64 fb) (by simp))
        go_simp
        first | refine hNx undef _ ?_ | skip
        exact ⟨(unhide hF).stepN rfl, keepGN (unhide f9) (by decide), keepGN (unhide f10) (by decide), keepL (unhide f11) (by decide), newL d10 (by decide), (unhide A1).congr (fun k => by rcases k with _ | _ | _ | _ | _ | _ | k <;> simp [ELbClosest, *])⟩
      refine StepsR.cons 14 rfl ?_ ?_
      · intro L us W hi hdep hR Kx hNx
        have hF := hide hR.1
        have f9 := hide hR.2.1
        have f10 := hide hR.2.2.1
        have f11 := hide hR.2.2.2.1
        have f12 := hide hR.2.2.2.2.1
        have hB := hR.2.2.2.2.2
        clear hR
        have d8 : L 8 = true := hdep 8 (by kernel_rfl)
        clear hdep
        have e28 : us 28 = .bool b := (unhide hF).get (k := 8) rfl d8
        have HB := hide hB
        clear hB
        simp only [fillA, Act.put, List.setIfInBounds_toArray, List.set_cons_zero, List.set_cons_succ] at hNx ⊢
        simp only [e28] at hNx ⊢
        clear e28
        rw [if_pos (by rfl)]
        go_simp
        first | refine hNx _ _ ?_ | skip
        exact ⟨(unhide hF).step rfl rfl, keepG (unhide f9) (by decide) (by decide), keepG (unhide f10) (by decide) (by decide), keepL (unhide f11) (by decide), keepL (unhide f12) (by decide), (unhide HB).congr (fun k => by rcases k with _ | _ | _ | _ | _ | _ | k <;> simp [ELbClosest])⟩
      exact StepsR.nil
    · intro L us W hL hR
      have hF := hide hR.1
      have f9 := hide hR.2.1
      have f10 := hide hR.2.2.1
      have f11 := hide hR.2.2.2.1
      have f12 := hide hR.2.2.2.2.1
      have hB := hR.2.2.2.2.2
      clear hR
      have l9 := hL 9 (by decide)
      have l10 := hL 10 (by decide)
      have l11 := hL 11 (by decide)
      have l12 := hL 12 (by decide)
      have hE0 : ELbClosest ax ay au av ak ad cx cy cu cv ck cd ta tb fa fb b g5 g6 w L us 0 = some (w.heap.size, [.int .i64 ax, .int .i64 ay, .int .i64 au, .int .i64 av, .int .i64 ak, .int .i64 ad]) := by simp [ELbClosest]
      have hO0 := hB.ownV hE0
      have hE1 : ELbClosest ax ay au av ak ad cx cy cu cv ck cd ta tb fa fb b g5 g6 w L us 1 = some (w.heap.size + 1, [.int .i64 cx, .int .i64 cy, .int .i64 cu, .int .i64 cv, .int .i64 ck, .int .i64 cd]) := by simp [ELbClosest]
      have hO1 := hB.ownV hE1
      have hE2 : ELbClosest ax ay au av ak ad cx cy cu cv ck cd ta tb fa fb b g5 g6 w L us 2 = some (g5, [.int .i64 ta, .int .i64 tb]) := by simp [ELbClosest]
      have hO2 := hB.ownV hE2
      have hE3 : ELbClosest ax ay au av ak ad cx cy cu cv ck cd ta tb fa fb b g5 g6 w L us 3 = some (g6, [.int .i64 fa, .int .i64 fb]) := by simp [ELbClosest]
      have hO3 := hB.ownV hE3
      have hE4 : ELbClosest ax ay au av ak ad cx cy cu cv ck cd ta tb fa fb b g5 g6 w L us 4 = some ((gOf (us 8)), [.int .i64 ta, .int .i64 tb]) := by simp [ELbClosest, *]
      have hO4 := hB.ownV hE4
      have hE5 : ELbClosest ax ay au av ak ad cx cy cu cv ck cd ta tb fa fb b g5 g6 w L us 5 = some ((gOf (us 9)), [.int .i64 fa, .int .i64 fb]) := by simp [ELbClosest, *]
      have hO5 := hB.ownV hE5
      have hg4 := (hB.own 4 _ _ hE4).1
      have ha4_0 := hB.apart 4 0 _ _ _ _ hE4 hE0 (by decide)
      have ha4_1 := hB.apart 4 1 _ _ _ _ hE4 hE1 (by decide)
      have ha4_2 := hB.apart 4 2 _ _ _ _ hE4 hE2 (by decide)
      have ha4_3 := hB.apart 4 3 _ _ _ _ hE4 hE3 (by decide)
      have hg5 := (hB.own 5 _ _ hE5).1
      have ha5_0 := hB.apart 5 0 _ _ _ _ hE5 hE0 (by decide)
      have ha5_1 := hB.apart 5 1 _ _ _ _ hE5 hE1 (by decide)
      have ha5_2 := hB.apart 5 2 _ _ _ _ hE5 hE2 (by decide)
      have ha5_3 := hB.apart 5 3 _ _ _ _ hE5 hE3 (by decide)
      have ha5_4 := hB.apart 5 4 _ _ _ _ hE5 hE4 (by decide)
      clear hE0 hE1 hE2 hE3 hE4 hE5
      have HA : Hid (Bk w W (XLbClosest ax ay au av ak ad cx cy cu cv ck cd ta tb fa fb b g5 g6 w (gOf (us 8)) (gOf (us 9)))) := hide (hB.congr (fun k => by rcases k with _ | _ | _ | _ | _ | _ | k <;> simp [ELbClosest, XLbClosest, *]))
      have f0 : us 21 = vShip ax ay au av ak ad := (unhide hF).get (k := 0) rfl (hL 0 (by decide))
      have f1 : us 22 = vShip ax ay au av ak ad := (unhide hF).get (k := 1) rfl (hL 1 (by decide))
      have f2 : us 23 = vShip cx cy cu cv ck cd := (unhide hF).get (k := 2) rfl (hL 2 (by decide))
      have f3 : us 24 = vShip cx cy cu cv ck cd := (unhide hF).get (k := 3) rfl (hL 3 (by decide))
      have f4 : us 25 = .tuple #[vV ta tb, vV fa fb, .bool b] := (unhide hF).get (k := 4) rfl (hL 4 (by decide))
      have f5 : us 20 = .tuple #[vV ta tb, vV fa fb, .bool b] := (unhide hF).get (k := 5) rfl (hL 5 (by decide))
      have f6 : us 26 = vV ta tb := (unhide hF).get (k := 6) rfl (hL 6 (by decide))
      have f7 : us 27 = vV fa fb := (unhide hF).get (k := 7) rfl (hL 7 (by decide))
      have f8 : us 28 = .bool b := (unhide hF).get (k := 8) rfl (hL 8 (by decide))
      replace f9 := unhide f9 (hL 9 (by decide))
      replace f10 := unhide f10 (hL 10 (by decide))
      have f13 : us 10 = .bool b := (unhide hF).get (k := 13) rfl (hL 13 (by decide))
      have HW := hide hB.below
      clear hB hL l9 l10 l11 l12
      simp only [fillA, Act.put, List.setIfInBounds_toArray, List.set_cons_zero, List.set_cons_succ]
      simp only [f0, f1, f2, f3, f4, f5, f6, f7, f8, f13]
      rw [f9]
      rw [f10]
      clear hF f0 f1 f2 f3 f4 f5 f6 f7 f8 f9 f10 f11 f12 f13
      generalize gOf (us 8) = g8 at *
      generalize gOf (us 9) = g9 at *
      clear us L
      clear hO0 hO1 hO2 hO3 hO4 hO5 hg4 hg5 ha4_0 ha4_1 ha4_2 ha4_3 ha5_0 ha5_1 ha5_2 ha5_3 ha5_4 HW HT1 HT2 HS HI
      have hq := (unhide HA).ownV (k := 2) rfl
      have m0 := hq.cell (i := 0) rfl
      have m1 := hq.cell (i := 1) rfl
      clear hq
      have hq := (unhide HA).ownV (k := 4) rfl
      have n0 := hq.cell (i := 0) rfl
      have n1 := hq.cell (i := 1) rfl
      clear hq
      go_wp2_with fail
      refine (unhide HE1 _).mono ?_
      rintro e w7 ⟨rfl, hb⟩
      replace HA := hide ((unhide HA).step hb)
      clear hb m0 m1 n0 n1
      have hq := (unhide HA).ownV (k := 3) rfl
      have m0 := hq.cell (i := 0) rfl
      have m1 := hq.cell (i := 1) rfl
      clear hq
      have hq := (unhide HA).ownV (k := 5) rfl
      have n0 := hq.cell (i := 0) rfl
      have n1 := hq.cell (i := 1) rfl
      clear hq
      go_wp2_with fail
      refine (unhide HE2 _).mono ?_
      rintro e w8 ⟨rfl, hb⟩
      replace HA := hide ((unhide HA).step hb)
      clear hb m0 m1 n0 n1
      have HW := hide (unhide HA).below
      cases b <;> (go_wp2; go_ret; exact ⟨rfl, unhide HW⟩)

end Go.Proofs.Ytmgcpllkielpkaa

/- The program's isBeside. Written by wip/mkrr4.py. -/
import Derived.Test.YtcljgaofpeaplaaRrC
namespace Go.Proofs.Ytcljgaofpeaplaa
open Go.RowKit

/-- P times the square of the cross is at most Q times the square of the dot. -/
def bes (P Q p q r s : Int) : Bool := decide (P * ((p * s - q * r) * (p * s - q * r)) ≤ Q * ((p * r + q * s) * (p * r + q * s)))
theorem sq_nonneg (k : Int) : 0 ≤ k * k := by rw [← Int.natAbs_mul_self]; omega
theorem cross_bd {p q r s : Int} (h1 : p.natAbs ≤ 200000) (h2 : q.natAbs ≤ 200000) (h3 : r.natAbs ≤ 1000) (h4 : s.natAbs ≤ 1000) : (p * s - q * r).natAbs ≤ 400000000 ∧ (p * r + q * s).natAbs ≤ 400000000 := by
  have a1 := natMul h1 h4
  have a2 := natMul h2 h3
  have a3 := natMul h1 h3
  have a4 := natMul h2 h4
  omega

def EBes (p q r s _k _d : Int) (w : World) (_L : Nat → Bool) (_us : Nat → Value) : Nat → Option (Nat × List Value)
  | 0 => some (w.heap.size, [.int .i64 p, .int .i64 q])
  | 1 => some (w.heap.size + 1, [.int .i64 r, .int .i64 s])
  | _ => none
def FBes (p q r s k d : Int) : FL := [(0, 11, vV p q), (1, 12, vV r s), (2, 13, .int .i64 k), (3, 14, vV p q), (4, 15, vV r s), (5, 16, .int .i64 d), (6, 9, .int .i64 k), (7, 10, .int .i64 d)]
def RBes (p q r s k d : Int) (w : World) (L : Nat → Bool) (us : Nat → Value) (W : World) : Prop :=
  Facts L us (FBes p q r s k d) ∧ Bk w W (EBes p q r s k d w L us)
def XBes (p q r s _k _d : Int) (w : World) : Nat → Option (Nat × List Value)
  | 0 => some (w.heap.size, [.int .i64 p, .int .i64 q])
  | 1 => some (w.heap.size + 1, [.int .i64 r, .int .i64 s])
  | _ => none
set_option maxRecDepth 10000 in
set_option maxHeartbeats 3200000 in
theorem implBeside5_any (p q r s : Int) (w : World) (h1 : p.natAbs ≤ 200000) (h2 : q.natAbs ≤ 200000) (h3 : r.natAbs ≤ 1000) (h4 : s.natAbs ≤ 1000) :
    Calls Try.prog 42 #[vV p q, vV r s, .int .u64 5, .int .u64 29] w fun e w' => e = .returned (.bool (bes 5 29 p q r s)) ∧ Below w.heap.size w w' := by
  have hbd := cross_bd h1 h2 h3 h4
  have HCr := hide fun W => implCross_any p q r s W h1 h2 (Nat.le_trans h3 (by decide)) (Nat.le_trans h4 (by decide))
  have HDo := hide fun W => implDot_any p q r s W h1 h2 (Nat.le_trans h3 (by decide)) (Nat.le_trans h4 (by decide))
  obtain ⟨k, ek⟩ : ∃ k, k = p * s - q * r := ⟨_, rfl⟩
  obtain ⟨d, ed⟩ : ∃ k, k = p * r + q * s := ⟨_, rfl⟩
  have HE : Hid (bes 5 29 p q r s = decide (5 * (k * k) ≤ 29 * (d * d))) := by show _ = _; rw [ek, ed]; rfl
  rw [← ek] at HCr hbd
  rw [← ed] at HDo hbd
  have x0 := sq_nonneg k
  have y0 := sq_nonneg d
  have x1 := natMul hbd.1 hbd.1
  have y1 := natMul hbd.2 hbd.2
  clear ek ed h1 h2 h3 h4 hbd
  obtain ⟨x, ex⟩ : ∃ m, m = k * k := ⟨_, rfl⟩
  obtain ⟨y, ey⟩ : ∃ m, m = d * d := ⟨_, rfl⟩
  rw [← ex] at x0 x1 HE
  rw [← ey] at y0 y1 HE
  have x2 : x ≤ 160000000000000000 := by omega
  have y2 : y ≤ 160000000000000000 := by omega
  have q1 : IntKind.i64.wrap (k * k) = x := by rw [← ex, IntKind.wrap_i64]; omega
  have q2 : IntKind.i64.wrap (d * d) = y := by rw [← ey, IntKind.wrap_i64]; omega
  clear ex ey x1 y1
  go_enter Try.func42, Try.ntmps42
  go_wp2_with fail
  have HB0 : Hid (∀ us, Bk w _ (EBes p q r s k d w (fun _ => false) us)) := hide (fun us => (((bk_nil w).made 0 #[.int .i64 p, .int .i64 q] 54).made 1 #[.int .i64 r, .int .i64 s] 54).congr (fun k => by rcases k with _ | _ | k <;> simp [EBes]))
  refine wp_region_slots [11, 12, 13, 14, 15, 16, 9, 10] (RBes p q r s k d w) (by kernel_rfl) (by kernel_rfl) (by decide) (by kernel_rfl) ?_ ?_ ?_
  · intro us
    exact ⟨facts_start us _, (unhide HB0 us).drew⟩
  · clear HB0
    refine StepsR.cons 1 rfl ?_ ?_
    · intro L us W hi hdep hR Kx hNx
      have hF := hide hR.1
      have hB := hR.2
      clear hR
      clear hdep
      have hE : EBes p q r s k d w L us 0 = some (w.heap.size, [.int .i64 p, .int .i64 q]) := by simp [EBes]
      have hO := hB.ownV hE
      have c0 := hO.cell (i := 0) rfl
      have c1 := hO.cell (i := 1) rfl
      clear hO
      have HB := hide hB
      clear hB
      have HE := hide hE
      clear hE
      simp only [fillA, Act.put, List.setIfInBounds_toArray, List.set_cons_zero, List.set_cons_succ] at hNx ⊢
      rw [if_pos (by rfl)]
      go_simp
      first | refine hNx _ _ ?_ | skip
      exact ⟨(unhide hF).step rfl rfl, (unhide HB).congr (fun k => by rcases k with _ | _ | k <;> simp [EBes])⟩
    refine StepsR.cons 2 rfl ?_ ?_
    · intro L us W hi hdep hR Kx hNx
      have hF := hide hR.1
      have hB := hR.2
      clear hR
      clear hdep
      have hE : EBes p q r s k d w L us 1 = some (w.heap.size + 1, [.int .i64 r, .int .i64 s]) := by simp [EBes]
      have hO := hB.ownV hE
      have c0 := hO.cell (i := 0) rfl
      have c1 := hO.cell (i := 1) rfl
      clear hO
      have HB := hide hB
      clear hB
      have HE := hide hE
      clear hE
      simp only [fillA, Act.put, List.setIfInBounds_toArray, List.set_cons_zero, List.set_cons_succ] at hNx ⊢
      rw [if_pos (by rfl)]
      go_simp
      first | refine hNx _ _ ?_ | skip
      exact ⟨(unhide hF).step rfl rfl, (unhide HB).congr (fun k => by rcases k with _ | _ | k <;> simp [EBes])⟩
    refine StepsR.cons 3 rfl ?_ ?_
    · intro L us W hi hdep hR Kx hNx
      have hF := hide hR.1
      have hB := hR.2
      clear hR
      have d0 : L 0 = true := hdep 0 (by kernel_rfl)
      have d1 : L 1 = true := hdep 1 (by kernel_rfl)
      clear hdep
      have e11 : us 11 = vV p q := (unhide hF).get (k := 0) rfl d0
      have e12 : us 12 = vV r s := (unhide hF).get (k := 1) rfl d1
      have HB := hide hB
      clear hB
      simp only [fillA, Act.put, List.setIfInBounds_toArray, List.set_cons_zero, List.set_cons_succ] at hNx ⊢
      simp only [e11, e12] at hNx ⊢
      clear e11 e12
      rw [if_pos (by rfl)]
      have HC := hide (unhide HCr W)
      go_simp
      refine (unhide HC).mono ?_
      rintro e W' ⟨rfl, hb⟩
      replace HB := hide ((unhide HB).step hb)
      clear hb HC
      go_wp2_with fail
      first | refine hNx _ _ ?_ | skip
      exact ⟨(unhide hF).step rfl rfl, (unhide HB).congr (fun k => by rcases k with _ | _ | k <;> simp [EBes])⟩
    refine StepsR.cons 4 rfl ?_ ?_
    · intro L us W hi hdep hR Kx hNx
      have hF := hide hR.1
      have hB := hR.2
      clear hR
      clear hdep
      have hE : EBes p q r s k d w L us 0 = some (w.heap.size, [.int .i64 p, .int .i64 q]) := by simp [EBes]
      have hO := hB.ownV hE
      have c0 := hO.cell (i := 0) rfl
      have c1 := hO.cell (i := 1) rfl
      clear hO
      have HB := hide hB
      clear hB
      have HE := hide hE
      clear hE
      simp only [fillA, Act.put, List.setIfInBounds_toArray, List.set_cons_zero, List.set_cons_succ] at hNx ⊢
      rw [if_pos (by rfl)]
      go_simp
      first | refine hNx _ _ ?_ | skip
      exact ⟨(unhide hF).step rfl rfl, (unhide HB).congr (fun k => by rcases k with _ | _ | k <;> simp [EBes])⟩
    refine StepsR.cons 5 rfl ?_ ?_
    · intro L us W hi hdep hR Kx hNx
      have hF := hide hR.1
      have hB := hR.2
      clear hR
      clear hdep
      have hE : EBes p q r s k d w L us 1 = some (w.heap.size + 1, [.int .i64 r, .int .i64 s]) := by simp [EBes]
      have hO := hB.ownV hE
      have c0 := hO.cell (i := 0) rfl
      have c1 := hO.cell (i := 1) rfl
      clear hO
      have HB := hide hB
      clear hB
      have HE := hide hE
      clear hE
      simp only [fillA, Act.put, List.setIfInBounds_toArray, List.set_cons_zero, List.set_cons_succ] at hNx ⊢
      rw [if_pos (by rfl)]
      go_simp
      first | refine hNx _ _ ?_ | skip
      exact ⟨(unhide hF).step rfl rfl, (unhide HB).congr (fun k => by rcases k with _ | _ | k <;> simp [EBes])⟩
    refine StepsR.cons 6 rfl ?_ ?_
    · intro L us W hi hdep hR Kx hNx
      have hF := hide hR.1
      have hB := hR.2
      clear hR
      have d3 : L 3 = true := hdep 3 (by kernel_rfl)
      have d4 : L 4 = true := hdep 4 (by kernel_rfl)
      clear hdep
      have e14 : us 14 = vV p q := (unhide hF).get (k := 3) rfl d3
      have e15 : us 15 = vV r s := (unhide hF).get (k := 4) rfl d4
      have HB := hide hB
      clear hB
      simp only [fillA, Act.put, List.setIfInBounds_toArray, List.set_cons_zero, List.set_cons_succ] at hNx ⊢
      simp only [e14, e15] at hNx ⊢
      clear e14 e15
      rw [if_pos (by rfl)]
      have HC := hide (unhide HDo W)
      go_simp
      refine (unhide HC).mono ?_
      rintro e W' ⟨rfl, hb⟩
      replace HB := hide ((unhide HB).step hb)
      clear hb HC
      go_wp2_with fail
      first | refine hNx _ _ ?_ | skip
      exact ⟨(unhide hF).step rfl rfl, (unhide HB).congr (fun k => by rcases k with _ | _ | k <;> simp [EBes])⟩
    refine StepsR.cons 7 rfl ?_ ?_
    · intro L us W hi hdep hR Kx hNx
      have hF := hide hR.1
      have hB := hR.2
      clear hR
      have d2 : L 2 = true := hdep 2 (by kernel_rfl)
      clear hdep
      have e13 : us 13 = .int .i64 k := (unhide hF).get (k := 2) rfl d2
      have HB := hide hB
      clear hB
      simp only [fillA, Act.put, List.setIfInBounds_toArray, List.set_cons_zero, List.set_cons_succ] at hNx ⊢
      simp only [e13] at hNx ⊢
      clear e13
      rw [if_pos (by rfl)]
      go_simp
      first | refine hNx _ _ ?_ | skip
      exact ⟨(unhide hF).step rfl rfl, (unhide HB).congr (fun k => by rcases k with _ | _ | k <;> simp [EBes])⟩
    refine StepsR.cons 8 rfl ?_ ?_
    · intro L us W hi hdep hR Kx hNx
      have hF := hide hR.1
      have hB := hR.2
      clear hR
      have d5 : L 5 = true := hdep 5 (by kernel_rfl)
      clear hdep
      have e16 : us 16 = .int .i64 d := (unhide hF).get (k := 5) rfl d5
      have HB := hide hB
      clear hB
      simp only [fillA, Act.put, List.setIfInBounds_toArray, List.set_cons_zero, List.set_cons_succ] at hNx ⊢
      simp only [e16] at hNx ⊢
      clear e16
      rw [if_pos (by rfl)]
      go_simp
      first | refine hNx _ _ ?_ | skip
      exact ⟨(unhide hF).step rfl rfl, (unhide HB).congr (fun k => by rcases k with _ | _ | k <;> simp [EBes])⟩
    exact StepsR.nil
  · intro L us W hL hR
    have hF := hide hR.1
    have hB := hR.2
    clear hR
    have hE0 : EBes p q r s k d w L us 0 = some (w.heap.size, [.int .i64 p, .int .i64 q]) := by simp [EBes]
    have hO0 := hB.ownV hE0
    have hE1 : EBes p q r s k d w L us 1 = some (w.heap.size + 1, [.int .i64 r, .int .i64 s]) := by simp [EBes]
    have hO1 := hB.ownV hE1
    clear hE0 hE1
    have HA : Hid (Bk w W (XBes p q r s k d w)) := hide (hB.congr (fun k => by rcases k with _ | _ | k <;> simp [EBes, XBes]))
    have f0 : us 11 = vV p q := (unhide hF).get (k := 0) rfl (hL 0 (by decide))
    have f1 : us 12 = vV r s := (unhide hF).get (k := 1) rfl (hL 1 (by decide))
    have f2 : us 13 = .int .i64 k := (unhide hF).get (k := 2) rfl (hL 2 (by decide))
    have f3 : us 14 = vV p q := (unhide hF).get (k := 3) rfl (hL 3 (by decide))
    have f4 : us 15 = vV r s := (unhide hF).get (k := 4) rfl (hL 4 (by decide))
    have f5 : us 16 = .int .i64 d := (unhide hF).get (k := 5) rfl (hL 5 (by decide))
    have f6 : us 9 = .int .i64 k := (unhide hF).get (k := 6) rfl (hL 6 (by decide))
    have f7 : us 10 = .int .i64 d := (unhide hF).get (k := 7) rfl (hL 7 (by decide))
    have HW := hide hB.below
    clear hB hL
    simp only [fillA, Act.put, List.setIfInBounds_toArray, List.set_cons_zero, List.set_cons_succ]
    simp only [f0, f1, f2, f3, f4, f5, f6, f7]
    clear hF f0 f1 f2 f3 f4 f5 f6 f7
    clear us L
    clear hO0 hO1 HCr HDo
    go_wp2
    go_ret
    exact ⟨ret_bool (by rw [unhide HE]; exact decide_eq_decide.2 (by omega)), unhide HW⟩

set_option maxRecDepth 10000 in
set_option maxHeartbeats 3200000 in
theorem implBeside100_any (p q r s : Int) (w : World) (h1 : p.natAbs ≤ 200000) (h2 : q.natAbs ≤ 200000) (h3 : r.natAbs ≤ 1000) (h4 : s.natAbs ≤ 1000) :
    Calls Try.prog 42 #[vV p q, vV r s, .int .u64 100, .int .u64 1] w fun e w' => e = .returned (.bool (bes 100 1 p q r s)) ∧ Below w.heap.size w w' := by
  have hbd := cross_bd h1 h2 h3 h4
  have HCr := hide fun W => implCross_any p q r s W h1 h2 (Nat.le_trans h3 (by decide)) (Nat.le_trans h4 (by decide))
  have HDo := hide fun W => implDot_any p q r s W h1 h2 (Nat.le_trans h3 (by decide)) (Nat.le_trans h4 (by decide))
  obtain ⟨k, ek⟩ : ∃ k, k = p * s - q * r := ⟨_, rfl⟩
  obtain ⟨d, ed⟩ : ∃ k, k = p * r + q * s := ⟨_, rfl⟩
  have HE : Hid (bes 100 1 p q r s = decide (100 * (k * k) ≤ 1 * (d * d))) := by show _ = _; rw [ek, ed]; rfl
  rw [← ek] at HCr hbd
  rw [← ed] at HDo hbd
  have x0 := sq_nonneg k
  have y0 := sq_nonneg d
  have x1 := natMul hbd.1 hbd.1
  have y1 := natMul hbd.2 hbd.2
  clear ek ed h1 h2 h3 h4 hbd
  obtain ⟨x, ex⟩ : ∃ m, m = k * k := ⟨_, rfl⟩
  obtain ⟨y, ey⟩ : ∃ m, m = d * d := ⟨_, rfl⟩
  rw [← ex] at x0 x1 HE
  rw [← ey] at y0 y1 HE
  have x2 : x ≤ 160000000000000000 := by omega
  have y2 : y ≤ 160000000000000000 := by omega
  have q1 : IntKind.i64.wrap (k * k) = x := by rw [← ex, IntKind.wrap_i64]; omega
  have q2 : IntKind.i64.wrap (d * d) = y := by rw [← ey, IntKind.wrap_i64]; omega
  clear ex ey x1 y1
  go_enter Try.func42, Try.ntmps42
  go_wp2_with fail
  have HB0 : Hid (∀ us, Bk w _ (EBes p q r s k d w (fun _ => false) us)) := hide (fun us => (((bk_nil w).made 0 #[.int .i64 p, .int .i64 q] 54).made 1 #[.int .i64 r, .int .i64 s] 54).congr (fun k => by rcases k with _ | _ | k <;> simp [EBes]))
  refine wp_region_slots [11, 12, 13, 14, 15, 16, 9, 10] (RBes p q r s k d w) (by kernel_rfl) (by kernel_rfl) (by decide) (by kernel_rfl) ?_ ?_ ?_
  · intro us
    exact ⟨facts_start us _, (unhide HB0 us).drew⟩
  · clear HB0
    refine StepsR.cons 1 rfl ?_ ?_
    · intro L us W hi hdep hR Kx hNx
      have hF := hide hR.1
      have hB := hR.2
      clear hR
      clear hdep
      have hE : EBes p q r s k d w L us 0 = some (w.heap.size, [.int .i64 p, .int .i64 q]) := by simp [EBes]
      have hO := hB.ownV hE
      have c0 := hO.cell (i := 0) rfl
      have c1 := hO.cell (i := 1) rfl
      clear hO
      have HB := hide hB
      clear hB
      have HE := hide hE
      clear hE
      simp only [fillA, Act.put, List.setIfInBounds_toArray, List.set_cons_zero, List.set_cons_succ] at hNx ⊢
      rw [if_pos (by rfl)]
      go_simp
      first | refine hNx _ _ ?_ | skip
      exact ⟨(unhide hF).step rfl rfl, (unhide HB).congr (fun k => by rcases k with _ | _ | k <;> simp [EBes])⟩
    refine StepsR.cons 2 rfl ?_ ?_
    · intro L us W hi hdep hR Kx hNx
      have hF := hide hR.1
      have hB := hR.2
      clear hR
      clear hdep
      have hE : EBes p q r s k d w L us 1 = some (w.heap.size + 1, [.int .i64 r, .int .i64 s]) := by simp [EBes]
      have hO := hB.ownV hE
      have c0 := hO.cell (i := 0) rfl
      have c1 := hO.cell (i := 1) rfl
      clear hO
      have HB := hide hB
      clear hB
      have HE := hide hE
      clear hE
      simp only [fillA, Act.put, List.setIfInBounds_toArray, List.set_cons_zero, List.set_cons_succ] at hNx ⊢
      rw [if_pos (by rfl)]
      go_simp
      first | refine hNx _ _ ?_ | skip
      exact ⟨(unhide hF).step rfl rfl, (unhide HB).congr (fun k => by rcases k with _ | _ | k <;> simp [EBes])⟩
    refine StepsR.cons 3 rfl ?_ ?_
    · intro L us W hi hdep hR Kx hNx
      have hF := hide hR.1
      have hB := hR.2
      clear hR
      have d0 : L 0 = true := hdep 0 (by kernel_rfl)
      have d1 : L 1 = true := hdep 1 (by kernel_rfl)
      clear hdep
      have e11 : us 11 = vV p q := (unhide hF).get (k := 0) rfl d0
      have e12 : us 12 = vV r s := (unhide hF).get (k := 1) rfl d1
      have HB := hide hB
      clear hB
      simp only [fillA, Act.put, List.setIfInBounds_toArray, List.set_cons_zero, List.set_cons_succ] at hNx ⊢
      simp only [e11, e12] at hNx ⊢
      clear e11 e12
      rw [if_pos (by rfl)]
      have HC := hide (unhide HCr W)
      go_simp
      refine (unhide HC).mono ?_
      rintro e W' ⟨rfl, hb⟩
      replace HB := hide ((unhide HB).step hb)
      clear hb HC
      go_wp2_with fail
      first | refine hNx _ _ ?_ | skip
      exact ⟨(unhide hF).step rfl rfl, (unhide HB).congr (fun k => by rcases k with _ | _ | k <;> simp [EBes])⟩
    refine StepsR.cons 4 rfl ?_ ?_
    · intro L us W hi hdep hR Kx hNx
      have hF := hide hR.1
      have hB := hR.2
      clear hR
      clear hdep
      have hE : EBes p q r s k d w L us 0 = some (w.heap.size, [.int .i64 p, .int .i64 q]) := by simp [EBes]
      have hO := hB.ownV hE
      have c0 := hO.cell (i := 0) rfl
      have c1 := hO.cell (i := 1) rfl
      clear hO
      have HB := hide hB
      clear hB
      have HE := hide hE
      clear hE
      simp only [fillA, Act.put, List.setIfInBounds_toArray, List.set_cons_zero, List.set_cons_succ] at hNx ⊢
      rw [if_pos (by rfl)]
      go_simp
      first | refine hNx _ _ ?_ | skip
      exact ⟨(unhide hF).step rfl rfl, (unhide HB).congr (fun k => by rcases k with _ | _ | k <;> simp [EBes])⟩
    refine StepsR.cons 5 rfl ?_ ?_
    · intro L us W hi hdep hR Kx hNx
      have hF := hide hR.1
      have hB := hR.2
      clear hR
      clear hdep
      have hE : EBes p q r s k d w L us 1 = some (w.heap.size + 1, [.int .i64 r, .int .i64 s]) := by simp [EBes]
      have hO := hB.ownV hE
      have c0 := hO.cell (i := 0) rfl
      have c1 := hO.cell (i := 1) rfl
      clear hO
      have HB := hide hB
      clear hB
      have HE := hide hE
      clear hE
      simp only [fillA, Act.put, List.setIfInBounds_toArray, List.set_cons_zero, List.set_cons_succ] at hNx ⊢
      rw [if_pos (by rfl)]
      go_simp
      first | refine hNx _ _ ?_ | skip
      exact ⟨(unhide hF).step rfl rfl, (unhide HB).congr (fun k => by rcases k with _ | _ | k <;> simp [EBes])⟩
    refine StepsR.cons 6 rfl ?_ ?_
    · intro L us W hi hdep hR Kx hNx
      have hF := hide hR.1
      have hB := hR.2
      clear hR
      have d3 : L 3 = true := hdep 3 (by kernel_rfl)
      have d4 : L 4 = true := hdep 4 (by kernel_rfl)
      clear hdep
      have e14 : us 14 = vV p q := (unhide hF).get (k := 3) rfl d3
      have e15 : us 15 = vV r s := (unhide hF).get (k := 4) rfl d4
      have HB := hide hB
      clear hB
      simp only [fillA, Act.put, List.setIfInBounds_toArray, List.set_cons_zero, List.set_cons_succ] at hNx ⊢
      simp only [e14, e15] at hNx ⊢
      clear e14 e15
      rw [if_pos (by rfl)]
      have HC := hide (unhide HDo W)
      go_simp
      refine (unhide HC).mono ?_
      rintro e W' ⟨rfl, hb⟩
      replace HB := hide ((unhide HB).step hb)
      clear hb HC
      go_wp2_with fail
      first | refine hNx _ _ ?_ | skip
      exact ⟨(unhide hF).step rfl rfl, (unhide HB).congr (fun k => by rcases k with _ | _ | k <;> simp [EBes])⟩
    refine StepsR.cons 7 rfl ?_ ?_
    · intro L us W hi hdep hR Kx hNx
      have hF := hide hR.1
      have hB := hR.2
      clear hR
      have d2 : L 2 = true := hdep 2 (by kernel_rfl)
      clear hdep
      have e13 : us 13 = .int .i64 k := (unhide hF).get (k := 2) rfl d2
      have HB := hide hB
      clear hB
      simp only [fillA, Act.put, List.setIfInBounds_toArray, List.set_cons_zero, List.set_cons_succ] at hNx ⊢
      simp only [e13] at hNx ⊢
      clear e13
      rw [if_pos (by rfl)]
      go_simp
      first | refine hNx _ _ ?_ | skip
      exact ⟨(unhide hF).step rfl rfl, (unhide HB).congr (fun k => by rcases k with _ | _ | k <;> simp [EBes])⟩
    refine StepsR.cons 8 rfl ?_ ?_
    · intro L us W hi hdep hR Kx hNx
      have hF := hide hR.1
      have hB := hR.2
      clear hR
      have d5 : L 5 = true := hdep 5 (by kernel_rfl)
      clear hdep
      have e16 : us 16 = .int .i64 d := (unhide hF).get (k := 5) rfl d5
      have HB := hide hB
      clear hB
      simp only [fillA, Act.put, List.setIfInBounds_toArray, List.set_cons_zero, List.set_cons_succ] at hNx ⊢
      simp only [e16] at hNx ⊢
      clear e16
      rw [if_pos (by rfl)]
      go_simp
      first | refine hNx _ _ ?_ | skip
      exact ⟨(unhide hF).step rfl rfl, (unhide HB).congr (fun k => by rcases k with _ | _ | k <;> simp [EBes])⟩
    exact StepsR.nil
  · intro L us W hL hR
    have hF := hide hR.1
    have hB := hR.2
    clear hR
    have hE0 : EBes p q r s k d w L us 0 = some (w.heap.size, [.int .i64 p, .int .i64 q]) := by simp [EBes]
    have hO0 := hB.ownV hE0
    have hE1 : EBes p q r s k d w L us 1 = some (w.heap.size + 1, [.int .i64 r, .int .i64 s]) := by simp [EBes]
    have hO1 := hB.ownV hE1
    clear hE0 hE1
    have HA : Hid (Bk w W (XBes p q r s k d w)) := hide (hB.congr (fun k => by rcases k with _ | _ | k <;> simp [EBes, XBes]))
    have f0 : us 11 = vV p q := (unhide hF).get (k := 0) rfl (hL 0 (by decide))
    have f1 : us 12 = vV r s := (unhide hF).get (k := 1) rfl (hL 1 (by decide))
    have f2 : us 13 = .int .i64 k := (unhide hF).get (k := 2) rfl (hL 2 (by decide))
    have f3 : us 14 = vV p q := (unhide hF).get (k := 3) rfl (hL 3 (by decide))
    have f4 : us 15 = vV r s := (unhide hF).get (k := 4) rfl (hL 4 (by decide))
    have f5 : us 16 = .int .i64 d := (unhide hF).get (k := 5) rfl (hL 5 (by decide))
    have f6 : us 9 = .int .i64 k := (unhide hF).get (k := 6) rfl (hL 6 (by decide))
    have f7 : us 10 = .int .i64 d := (unhide hF).get (k := 7) rfl (hL 7 (by decide))
    have HW := hide hB.below
    clear hB hL
    simp only [fillA, Act.put, List.setIfInBounds_toArray, List.set_cons_zero, List.set_cons_succ]
    simp only [f0, f1, f2, f3, f4, f5, f6, f7]
    clear hF f0 f1 f2 f3 f4 f5 f6 f7
    clear us L
    clear hO0 hO1 HCr HDo
    go_wp2
    go_ret
    exact ⟨ret_bool (by rw [unhide HE]; exact decide_eq_decide.2 (by omega)), unhide HW⟩


end Go.Proofs.Ytcljgaofpeaplaa

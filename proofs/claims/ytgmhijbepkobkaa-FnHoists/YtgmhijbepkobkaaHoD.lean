/- Contracts of the program's mayGive and behindSignal. Written by wip/mk20d.py. -/
import Derived.Test.YtgmhijbepkobkaaHoC
import Derived.Deep.DeepCutAuto
namespace Go.Proofs.Ytgmhijbepkobkaa
open Go.RowKit

set_option maxRecDepth 100000 in
theorem bit_run (n k : Int) (hn : n = 88 ∨ n = 112 ∨ n = 216 ∨ n = 218 ∨ n = 220 ∨ n = 222) (hk : 1 ≤ k ∧ k ≤ 7) :
    ∃ x y : Int, (∀ V, (Op.shift .shr .i64 n .i64 k).run Try.prog V = .ok (.int .i64 x) V) ∧ bits .and .i64 x 1 = y ∧ (y == 1) = bitN n k := by
  have hc : k = 1 ∨ k = 2 ∨ k = 3 ∨ k = 4 ∨ k = 5 ∨ k = 6 ∨ k = 7 := by omega
  clear hk
  rcases hn with rfl | rfl | rfl | rfl | rfl | rfl <;> rcases hc with rfl | rfl | rfl | rfl | rfl | rfl | rfl <;> exact ⟨_, _, fun V => rfl, rfl, by decide⟩

def EMf (q ld he lw hg lm rs k m _n _x _y : Int) (_b : Bool) (w : World) (_L : Nat → Bool) (_us : Nat → Value) : Nat → Option (Nat × List Value)
  | 0 => some (w.heap.size, [.int .i64 q, .int .i64 ld, .int .i64 he, .int .i64 lw, .int .i64 hg, .int .i64 lm, .int .i64 rs])
  | 1 => some (w.heap.size + 1, [.int .i64 k, .int .i64 m])
  | _ => none
def FMf (_q _ld _he _lw _hg _lm _rs k m _n _x _y : Int) (_b : Bool) : FL := [(0, 5, .agg #[.int .i64 k, .int .i64 m]), (1, 6, .bool false), (2, 7, .bool false), (3, 8, undef), (4, 9, undef), (5, 10, undef), (6, 11, undef), (7, 12, undef), (8, 13, undef), (9, 14, undef), (10, 15, .bool false), (11, 4, .bool false)]
def RMf (q ld he lw hg lm rs k m n x y : Int) (b : Bool) (w : World) (L : Nat → Bool) (us : Nat → Value) (W : World) : Prop :=
  Facts L us (FMf q ld he lw hg lm rs k m n x y b) ∧ Bk w W (EMf q ld he lw hg lm rs k m n x y b w L us)
def XMf (q ld he lw hg lm rs k m _n _x _y : Int) (_b : Bool) (w : World) : Nat → Option (Nat × List Value)
  | 0 => some (w.heap.size, [.int .i64 q, .int .i64 ld, .int .i64 he, .int .i64 lw, .int .i64 hg, .int .i64 lm, .int .i64 rs])
  | 1 => some (w.heap.size + 1, [.int .i64 k, .int .i64 m])
  | _ => none
def EMt (q ld he lw hg lm rs k m _n _x _y : Int) (_b : Bool) (w : World) (_L : Nat → Bool) (_us : Nat → Value) : Nat → Option (Nat × List Value)
  | 0 => some (w.heap.size, [.int .i64 q, .int .i64 ld, .int .i64 he, .int .i64 lw, .int .i64 hg, .int .i64 lm, .int .i64 rs])
  | 1 => some (w.heap.size + 1, [.int .i64 k, .int .i64 m])
  | _ => none
def FMt (q ld he lw hg lm rs k m n x y : Int) (b : Bool) (w : World) : FL := [(0, 5, .agg #[.int .i64 k, .int .i64 m]), (1, 6, .bool true), (2, 7, .bool true), (3, 8, .agg #[.int .i64 q, .int .i64 ld, .int .i64 he, .int .i64 lw, .int .i64 hg, .int .i64 lm, .int .i64 rs]), (4, 9, .int .i64 n), (5, 10, .pointer (some ⟨w.heap.size + 1, 0, none⟩)), (6, 11, .int .i64 k), (7, 12, .int .i64 x), (8, 13, .int .i64 y), (9, 14, .bool b), (10, 15, .bool b), (11, 4, .bool b)]
def RMt (q ld he lw hg lm rs k m n x y : Int) (b : Bool) (w : World) (L : Nat → Bool) (us : Nat → Value) (W : World) : Prop :=
  Facts L us (FMt q ld he lw hg lm rs k m n x y b w) ∧ Bk w W (EMt q ld he lw hg lm rs k m n x y b w L us)
def XMt (q ld he lw hg lm rs k m _n _x _y : Int) (_b : Bool) (w : World) : Nat → Option (Nat × List Value)
  | 0 => some (w.heap.size, [.int .i64 q, .int .i64 ld, .int .i64 he, .int .i64 lw, .int .i64 hg, .int .i64 lm, .int .i64 rs])
  | 1 => some (w.heap.size + 1, [.int .i64 k, .int .i64 m])
  | _ => none

set_option maxRecDepth 100000 in
set_option maxHeartbeats 6400000 in
theorem mayGive_any (q ld he lw hg lm rs k m : Int) (w : World) : Calls Try.prog 64 #[vHoist q ld he lw hg lm rs, vSignal k m] w fun e w' => e = .returned (.bool (mayB ⟨q, ld, he, lw, hg, lm, rs⟩ k m)) ∧ Below w.heap.size w w' := by
  have HB := hide (bk_two w #[.int .i64 q, .int .i64 ld, .int .i64 he, .int .i64 lw, .int .i64 hg, .int .i64 lm, .int .i64 rs] #[.int .i64 k, .int .i64 m] 37 44)
  have HS := hide fun W => signalOk_any k m W
  have HO := hide fun W => openSignals_any q ld he lw hg lm rs W
  obtain ⟨n, en⟩ : ∃ z, z = opN ⟨q, ld, he, lw, hg, lm, rs⟩ := ⟨_, rfl⟩
  have hn := op_cases ⟨q, ld, he, lw, hg, lm, rs⟩
  rw [← en] at HO hn
  cases hs : sgB k m
  · have HN : Hid (mayB ⟨q, ld, he, lw, hg, lm, rs⟩ k m = false) := by show _ = _; unfold mayB; rw [hs]; rfl
    obtain ⟨r, er⟩ : ∃ z, z = mayB ⟨q, ld, he, lw, hg, lm, rs⟩ k m := ⟨_, rfl⟩
    rw [← er] at HN ⊢
    rw [hs] at HS
    clear er hs en hn
    obtain ⟨x, y, b, -⟩ : ∃ (x y : Int) (b : Bool), x = 0 ∧ y = 0 ∧ b = false := ⟨0, 0, false, rfl, rfl, rfl⟩
    unfold vHoist vSignal at *
    go_enter Try.func64, Try.ntmps64
    go_wp2_with fail
    have HB0 : Hid (∀ us, Bk w _ (EMf q ld he lw hg lm rs k m n x y b w (fun _ => false) us)) := hide (fun us => ((unhide HB)).congr (fun k => by rcases k with _ | _ | k <;> simp [EMf, E2]))
    refine wp_region_slots [5, 6, 7, 8, 9, 10, 11, 12, 13, 14, 15, 4] (RMf q ld he lw hg lm rs k m n x y b w) (by kernel_rfl) (by kernel_rfl) (by decide) (by kernel_rfl) ?_ ?_ ?_
    · intro us
      exact ⟨facts_start us _, (unhide HB0 us).drew⟩
    · clear HB0
      refine StepsR.cons 1 rfl ?_ ?_
      · intro L us W hi hdep hR Kx hNx
        have hF := hide hR.1
        have hB := hR.2
        clear hR
        clear hdep
        have hE : EMf q ld he lw hg lm rs k m n x y b w L us 1 = some (w.heap.size + 1, [.int .i64 k, .int .i64 m]) := by simp [EMf]
        have hO := hB.ownV hE
        have c0 := hO.cell (i := 0) rfl
        have c1 := hO.cell (i := 1) rfl
        clear hO
        have HB := hide hB
        clear hB
        have HE := hide hE
        clear hE
        simp only [fillA, Act.put, List.setIfInBounds_toArray, List.set_cons_zero, List.set_cons_succ] at hNx ⊢
        rw [if_pos (by rfl)]
        go_simp
        first | refine hNx _ _ ?_ | skip
        exact ⟨(unhide hF).step rfl rfl, (unhide HB).congr (fun k => by rcases k with _ | _ | k <;> simp [EMf])⟩
      refine StepsR.cons 2 rfl ?_ ?_
      · intro L us W hi hdep hR Kx hNx
        have hF := hide hR.1
        have hB := hR.2
        clear hR
        have d0 : L 0 = true := hdep 0 (by kernel_rfl)
        clear hdep
        have e5 : us 5 = .agg #[.int .i64 k, .int .i64 m] := (unhide hF).get (k := 0) rfl d0
        have HB := hide hB
        clear hB
        simp only [fillA, Act.put, List.setIfInBounds_toArray, List.set_cons_zero, List.set_cons_succ] at hNx ⊢
        simp only [e5] at hNx ⊢
        clear e5
        rw [if_pos (by rfl)]
        have HC := hide (unhide HS W)
        go_simp
        refine (unhide HC).mono ?_
        rintro e W' ⟨rfl, hb⟩
        replace HB := hide ((unhide HB).step hb)
        clear hb HC
        go_wp2_with fail
        first | refine hNx _ _ ?_ | skip
        exact ⟨(unhide hF).step rfl rfl, (unhide HB).congr (fun k => by rcases k with _ | _ | k <;> simp [EMf])⟩
      refine StepsR.cons 3 rfl ?_ ?_
      · intro L us W hi hdep hR Kx hNx
        have hF := hide hR.1
        have hB := hR.2
        clear hR
        have d1 : L 1 = true := hdep 1 (by kernel_rfl)
        clear hdep
        have e6 : us 6 = .bool false := (unhide hF).get (k := 1) rfl d1
        have HB := hide hB
        clear hB
        simp only [fillA, Act.put, List.setIfInBounds_toArray, List.set_cons_zero, List.set_cons_succ] at hNx ⊢
        simp only [e6] at hNx ⊢
        clear e6
        rw [if_pos (by rfl)]
        go_simp
        first | refine hNx _ _ ?_ | skip
        exact ⟨(unhide hF).step rfl rfl, (unhide HB).congr (fun k => by rcases k with _ | _ | k <;> simp [EMf])⟩
      refine StepsR.cons 4 rfl ?_ ?_
      · intro L us W hi hdep hR Kx hNx
        have hF := hide hR.1
        have hB := hR.2
        clear hR
        have d2 : L 2 = true := hdep 2 (by kernel_rfl)
        clear hdep
        have e7 : us 7 = .bool false := (unhide hF).get (k := 2) rfl d2
        have HB := hide hB
        clear hB
        simp only [fillA, Act.put, List.setIfInBounds_toArray, List.set_cons_zero, List.set_cons_succ] at hNx ⊢
        simp only [e7] at hNx ⊢
        clear e7
        refine ifn (by rfl) ?_
        first | refine hNx _ _ ?_ | skip
        exact ⟨(unhide hF).step rfl rfl, (unhide HB).congr (fun k => by rcases k with _ | _ | k <;> simp [EMf])⟩
      refine StepsR.cons 5 rfl ?_ ?_
      · intro L us W hi hdep hR Kx hNx
        have hF := hide hR.1
        have hB := hR.2
        clear hR
        have d2 : L 2 = true := hdep 2 (by kernel_rfl)
        clear hdep
        have e7 : us 7 = .bool false := (unhide hF).get (k := 2) rfl d2
        have HB := hide hB
        clear hB
        simp only [fillA, Act.put, List.setIfInBounds_toArray, List.set_cons_zero, List.set_cons_succ] at hNx ⊢
        simp only [e7] at hNx ⊢
        clear e7
        refine ifn (by rfl) ?_
        first | refine hNx _ _ ?_ | skip
        exact ⟨(unhide hF).step rfl rfl, (unhide HB).congr (fun k => by rcases k with _ | _ | k <;> simp [EMf])⟩
      refine StepsR.cons 6 rfl ?_ ?_
      · intro L us W hi hdep hR Kx hNx
        have hF := hide hR.1
        have hB := hR.2
        clear hR
        have d2 : L 2 = true := hdep 2 (by kernel_rfl)
        clear hdep
        have e7 : us 7 = .bool false := (unhide hF).get (k := 2) rfl d2
        have HB := hide hB
        clear hB
        simp only [fillA, Act.put, List.setIfInBounds_toArray, List.set_cons_zero, List.set_cons_succ] at hNx ⊢
        simp only [e7] at hNx ⊢
        clear e7
        refine ifn (by rfl) ?_
        first | refine hNx _ _ ?_ | skip
        exact ⟨(unhide hF).step rfl rfl, (unhide HB).congr (fun k => by rcases k with _ | _ | k <;> simp [EMf])⟩
      refine StepsR.cons 7 rfl ?_ ?_
      · intro L us W hi hdep hR Kx hNx
        have hF := hide hR.1
        have hB := hR.2
        clear hR
        have d2 : L 2 = true := hdep 2 (by kernel_rfl)
        clear hdep
        have e7 : us 7 = .bool false := (unhide hF).get (k := 2) rfl d2
        have HB := hide hB
        clear hB
        simp only [fillA, Act.put, List.setIfInBounds_toArray, List.set_cons_zero, List.set_cons_succ] at hNx ⊢
        simp only [e7] at hNx ⊢
        clear e7
        refine ifn (by rfl) ?_
        first | refine hNx _ _ ?_ | skip
        exact ⟨(unhide hF).step rfl rfl, (unhide HB).congr (fun k => by rcases k with _ | _ | k <;> simp [EMf])⟩
      refine StepsR.cons 8 rfl ?_ ?_
      · intro L us W hi hdep hR Kx hNx
        have hF := hide hR.1
        have hB := hR.2
        clear hR
        have d2 : L 2 = true := hdep 2 (by kernel_rfl)
        clear hdep
        have e7 : us 7 = .bool false := (unhide hF).get (k := 2) rfl d2
        have HB := hide hB
        clear hB
        simp only [fillA, Act.put, List.setIfInBounds_toArray, List.set_cons_zero, List.set_cons_succ] at hNx ⊢
        simp only [e7] at hNx ⊢
        clear e7
        refine ifn (by rfl) ?_
        first | refine hNx _ _ ?_ | skip
        exact ⟨(unhide hF).step rfl rfl, (unhide HB).congr (fun k => by rcases k with _ | _ | k <;> simp [EMf])⟩
      refine StepsR.cons 9 rfl ?_ ?_
      · intro L us W hi hdep hR Kx hNx
        have hF := hide hR.1
        have hB := hR.2
        clear hR
        have d2 : L 2 = true := hdep 2 (by kernel_rfl)
        clear hdep
        have e7 : us 7 = .bool false := (unhide hF).get (k := 2) rfl d2
        have HB := hide hB
        clear hB
        simp only [fillA, Act.put, List.setIfInBounds_toArray, List.set_cons_zero, List.set_cons_succ] at hNx ⊢
        simp only [e7] at hNx ⊢
        clear e7
        refine ifn (by rfl) ?_
        first | refine hNx _ _ ?_ | skip
        exact ⟨(unhide hF).step rfl rfl, (unhide HB).congr (fun k => by rcases k with _ | _ | k <;> simp [EMf])⟩
      refine StepsR.cons 10 rfl ?_ ?_
      · intro L us W hi hdep hR Kx hNx
        have hF := hide hR.1
        have hB := hR.2
        clear hR
        have d2 : L 2 = true := hdep 2 (by kernel_rfl)
        clear hdep
        have e7 : us 7 = .bool false := (unhide hF).get (k := 2) rfl d2
        have HB := hide hB
        clear hB
        simp only [fillA, Act.put, List.setIfInBounds_toArray, List.set_cons_zero, List.set_cons_succ] at hNx ⊢
        simp only [e7] at hNx ⊢
        clear e7
        refine ifn (by rfl) ?_
        first | refine hNx _ _ ?_ | skip
        exact ⟨(unhide hF).step rfl rfl, (unhide HB).congr (fun k => by rcases k with _ | _ | k <;> simp [EMf])⟩
      refine StepsR.cons 11 rfl ?_ ?_
      · intro L us W hi hdep hR Kx hNx
        have hF := hide hR.1
        have hB := hR.2
        clear hR
        have d2 : L 2 = true := hdep 2 (by kernel_rfl)
        have d9 : L 9 = true := hdep 9 (by kernel_rfl)
        clear hdep
        have e7 : us 7 = .bool false := (unhide hF).get (k := 2) rfl d2
        have e14 : us 14 = undef := (unhide hF).get (k := 9) rfl d9
        have HB := hide hB
        clear hB
        simp only [fillA, Act.put, List.setIfInBounds_toArray, List.set_cons_zero, List.set_cons_succ] at hNx ⊢
        simp only [e7, e14] at hNx ⊢
        clear e7 e14
        rw [if_pos (by rfl)]
        go_simp
        first | refine hNx _ _ ?_ | skip
        exact ⟨(unhide hF).step rfl rfl, (unhide HB).congr (fun k => by rcases k with _ | _ | k <;> simp [EMf])⟩
      refine StepsR.cons 12 rfl ?_ ?_
      · intro L us W hi hdep hR Kx hNx
        have hF := hide hR.1
        have hB := hR.2
        clear hR
        have d10 : L 10 = true := hdep 10 (by kernel_rfl)
        clear hdep
        have e15 : us 15 = .bool false := (unhide hF).get (k := 10) rfl d10
        have HB := hide hB
        clear hB
        simp only [fillA, Act.put, List.setIfInBounds_toArray, List.set_cons_zero, List.set_cons_succ] at hNx ⊢
        simp only [e15] at hNx ⊢
        clear e15
        rw [if_pos (by rfl)]
        go_simp
        first | refine hNx _ _ ?_ | skip
        exact ⟨(unhide hF).step rfl rfl, (unhide HB).congr (fun k => by rcases k with _ | _ | k <;> simp [EMf])⟩
      exact StepsR.nil
    · intro L us W hL hR
      have hF := hide hR.1
      have hB := hR.2
      clear hR
      have hE0 : EMf q ld he lw hg lm rs k m n x y b w L us 0 = some (w.heap.size, [.int .i64 q, .int .i64 ld, .int .i64 he, .int .i64 lw, .int .i64 hg, .int .i64 lm, .int .i64 rs]) := by simp [EMf]
      have hO0 := hB.ownV hE0
      have hE1 : EMf q ld he lw hg lm rs k m n x y b w L us 1 = some (w.heap.size + 1, [.int .i64 k, .int .i64 m]) := by simp [EMf]
      have hO1 := hB.ownV hE1
      clear hE0 hE1
      have HA : Hid (Bk w W (XMf q ld he lw hg lm rs k m n x y b w)) := hide (hB.congr (fun k => by rcases k with _ | _ | k <;> simp [EMf, XMf]))
      have f0 : us 5 = .agg #[.int .i64 k, .int .i64 m] := (unhide hF).get (k := 0) rfl (hL 0 (by decide))
      have f1 : us 6 = .bool false := (unhide hF).get (k := 1) rfl (hL 1 (by decide))
      have f2 : us 7 = .bool false := (unhide hF).get (k := 2) rfl (hL 2 (by decide))
      have f3 : us 8 = undef := (unhide hF).get (k := 3) rfl (hL 3 (by decide))
      have f4 : us 9 = undef := (unhide hF).get (k := 4) rfl (hL 4 (by decide))
      have f5 : us 10 = undef := (unhide hF).get (k := 5) rfl (hL 5 (by decide))
      have f6 : us 11 = undef := (unhide hF).get (k := 6) rfl (hL 6 (by decide))
      have f7 : us 12 = undef := (unhide hF).get (k := 7) rfl (hL 7 (by decide))
      have f8 : us 13 = undef := (unhide hF).get (k := 8) rfl (hL 8 (by decide))
      have f9 : us 14 = undef := (unhide hF).get (k := 9) rfl (hL 9 (by decide))
      have f10 : us 15 = .bool false := (unhide hF).get (k := 10) rfl (hL 10 (by decide))
      have f11 : us 4 = .bool false := (unhide hF).get (k := 11) rfl (hL 11 (by decide))
      have HW := hide hB.below
      clear hB hL
      simp only [fillA, Act.put, List.setIfInBounds_toArray, List.set_cons_zero, List.set_cons_succ]
      simp only [f0, f1, f2, f3, f4, f5, f6, f7, f8, f9, f10, f11]
      clear hF f0 f1 f2 f3 f4 f5 f6 f7 f8 f9 f10 f11
      clear us L
      clear hO0 hO1 HA HO HS
      go_wp2
      go_ret
      exact ⟨ret_bool (unhide HN).symm, unhide HW⟩
  · have hk : 1 ≤ k ∧ k ≤ 7 := by
      unfold sgB at hs
      by_cases h6 : k = 6
      · omega
      · have e1 : (k == 6) = false := by simp [h6]
        rw [e1, cond_false] at hs
        exact inB_true hs
    obtain ⟨x, y, HR1, HR2, hb⟩ := bit_run n k hn hk
    have HN : Hid (mayB ⟨q, ld, he, lw, hg, lm, rs⟩ k m = (y == 1)) := by show _ = _; unfold mayB; rw [hs, hb, en]; rfl
    obtain ⟨r, er⟩ : ∃ z, z = mayB ⟨q, ld, he, lw, hg, lm, rs⟩ k m := ⟨_, rfl⟩
    obtain ⟨b, hyb⟩ : ∃ z, (y == 1) = z := ⟨_, rfl⟩
    rw [← er] at HN ⊢
    rw [hyb] at HN
    rw [hs] at HS
    clear er hs en hn hb hk
    unfold vHoist vSignal at *
    go_enter Try.func64, Try.ntmps64
    go_wp2_with fail
    have HB0 : Hid (∀ us, Bk w _ (EMt q ld he lw hg lm rs k m n x y b w (fun _ => false) us)) := hide (fun us => ((unhide HB)).congr (fun k => by rcases k with _ | _ | k <;> simp [EMt, E2]))
    refine wp_region_slots [5, 6, 7, 8, 9, 10, 11, 12, 13, 14, 15, 4] (RMt q ld he lw hg lm rs k m n x y b w) (by kernel_rfl) (by kernel_rfl) (by decide) (by kernel_rfl) ?_ ?_ ?_
    · intro us
      exact ⟨facts_start us _, (unhide HB0 us).drew⟩
    · clear HB0
      refine StepsR.cons 1 rfl ?_ ?_
      · intro L us W hi hdep hR Kx hNx
        have hF := hide hR.1
        have hB := hR.2
        clear hR
        clear hdep
        have hE : EMt q ld he lw hg lm rs k m n x y b w L us 1 = some (w.heap.size + 1, [.int .i64 k, .int .i64 m]) := by simp [EMt]
        have hO := hB.ownV hE
        have c0 := hO.cell (i := 0) rfl
        have c1 := hO.cell (i := 1) rfl
        clear hO
        have HB := hide hB
        clear hB
        have HE := hide hE
        clear hE
        simp only [fillA, Act.put, List.setIfInBounds_toArray, List.set_cons_zero, List.set_cons_succ] at hNx ⊢
        rw [if_pos (by rfl)]
        go_simp
        first | refine hNx _ _ ?_ | skip
        exact ⟨(unhide hF).step rfl rfl, (unhide HB).congr (fun k => by rcases k with _ | _ | k <;> simp [EMt])⟩
      refine StepsR.cons 2 rfl ?_ ?_
      · intro L us W hi hdep hR Kx hNx
        have hF := hide hR.1
        have hB := hR.2
        clear hR
        have d0 : L 0 = true := hdep 0 (by kernel_rfl)
        clear hdep
        have e5 : us 5 = .agg #[.int .i64 k, .int .i64 m] := (unhide hF).get (k := 0) rfl d0
        have HB := hide hB
        clear hB
        simp only [fillA, Act.put, List.setIfInBounds_toArray, List.set_cons_zero, List.set_cons_succ] at hNx ⊢
        simp only [e5] at hNx ⊢
        clear e5
        rw [if_pos (by rfl)]
        have HC := hide (unhide HS W)
        go_simp
        refine (unhide HC).mono ?_
        rintro e W' ⟨rfl, hb⟩
        replace HB := hide ((unhide HB).step hb)
        clear hb HC
        go_wp2_with fail
        first | refine hNx _ _ ?_ | skip
        exact ⟨(unhide hF).step rfl rfl, (unhide HB).congr (fun k => by rcases k with _ | _ | k <;> simp [EMt])⟩
      refine StepsR.cons 3 rfl ?_ ?_
      · intro L us W hi hdep hR Kx hNx
        have hF := hide hR.1
        have hB := hR.2
        clear hR
        have d1 : L 1 = true := hdep 1 (by kernel_rfl)
        clear hdep
        have e6 : us 6 = .bool true := (unhide hF).get (k := 1) rfl d1
        have HB := hide hB
        clear hB
        simp only [fillA, Act.put, List.setIfInBounds_toArray, List.set_cons_zero, List.set_cons_succ] at hNx ⊢
        simp only [e6] at hNx ⊢
        clear e6
        rw [if_pos (by rfl)]
        go_simp
        first | refine hNx _ _ ?_ | skip
        exact ⟨(unhide hF).step rfl rfl, (unhide HB).congr (fun k => by rcases k with _ | _ | k <;> simp [EMt])⟩
      refine StepsR.cons 4 rfl ?_ ?_
      · intro L us W hi hdep hR Kx hNx
        have hF := hide hR.1
        have hB := hR.2
        clear hR
        have d2 : L 2 = true := hdep 2 (by kernel_rfl)
        clear hdep
        have hE : EMt q ld he lw hg lm rs k m n x y b w L us 0 = some (w.heap.size, [.int .i64 q, .int .i64 ld, .int .i64 he, .int .i64 lw, .int .i64 hg, .int .i64 lm, .int .i64 rs]) := by simp [EMt]
        have e7 : us 7 = .bool true := (unhide hF).get (k := 2) rfl d2
        have hO := hB.ownV hE
        have c0 := hO.cell (i := 0) rfl
        have c1 := hO.cell (i := 1) rfl
        have c2 := hO.cell (i := 2) rfl
        have c3 := hO.cell (i := 3) rfl
        have c4 := hO.cell (i := 4) rfl
        have c5 := hO.cell (i := 5) rfl
        have c6 := hO.cell (i := 6) rfl
        clear hO
        have HB := hide hB
        clear hB
        have HE := hide hE
        clear hE
        simp only [fillA, Act.put, List.setIfInBounds_toArray, List.set_cons_zero, List.set_cons_succ] at hNx ⊢
        simp only [e7] at hNx ⊢
        clear e7
        rw [if_pos (by rfl)]
        go_simp
        first | refine hNx _ _ ?_ | skip
        exact ⟨(unhide hF).step rfl rfl, (unhide HB).congr (fun k => by rcases k with _ | _ | k <;> simp [EMt])⟩
      refine StepsR.cons 5 rfl ?_ ?_
      · intro L us W hi hdep hR Kx hNx
        have hF := hide hR.1
        have hB := hR.2
        clear hR
        have d2 : L 2 = true := hdep 2 (by kernel_rfl)
        have d3 : L 3 = true := hdep 3 (by kernel_rfl)
        clear hdep
        have e7 : us 7 = .bool true := (unhide hF).get (k := 2) rfl d2
        have e8 : us 8 = .agg #[.int .i64 q, .int .i64 ld, .int .i64 he, .int .i64 lw, .int .i64 hg, .int .i64 lm, .int .i64 rs] := (unhide hF).get (k := 3) rfl d3
        have HB := hide hB
        clear hB
        simp only [fillA, Act.put, List.setIfInBounds_toArray, List.set_cons_zero, List.set_cons_succ] at hNx ⊢
        simp only [e7, e8] at hNx ⊢
        clear e7 e8
        rw [if_pos (by rfl)]
        have HC := hide (unhide HO W)
        go_simp
        refine (unhide HC).mono ?_
        rintro e W' ⟨rfl, hb⟩
        replace HB := hide ((unhide HB).step hb)
        clear hb HC
        go_wp2_with fail
        first | refine hNx _ _ ?_ | skip
        exact ⟨(unhide hF).step rfl rfl, (unhide HB).congr (fun k => by rcases k with _ | _ | k <;> simp [EMt])⟩
      refine StepsR.cons 6 rfl ?_ ?_
      · intro L us W hi hdep hR Kx hNx
        have hF := hide hR.1
        have hB := hR.2
        clear hR
        have d2 : L 2 = true := hdep 2 (by kernel_rfl)
        clear hdep
        have e7 : us 7 = .bool true := (unhide hF).get (k := 2) rfl d2
        have HB := hide hB
        clear hB
        simp only [fillA, Act.put, List.setIfInBounds_toArray, List.set_cons_zero, List.set_cons_succ] at hNx ⊢
        simp only [e7] at hNx ⊢
        clear e7
        rw [if_pos (by rfl)]
        go_simp
        first | refine hNx _ _ ?_ | skip
        exact ⟨(unhide hF).step rfl rfl, (unhide HB).congr (fun k => by rcases k with _ | _ | k <;> simp [EMt])⟩
      refine StepsR.cons 7 rfl ?_ ?_
      · intro L us W hi hdep hR Kx hNx
        have hF := hide hR.1
        have hB := hR.2
        clear hR
        have d2 : L 2 = true := hdep 2 (by kernel_rfl)
        have d5 : L 5 = true := hdep 5 (by kernel_rfl)
        clear hdep
        have hE : EMt q ld he lw hg lm rs k m n x y b w L us 1 = some (w.heap.size + 1, [.int .i64 k, .int .i64 m]) := by simp [EMt]
        have e7 : us 7 = .bool true := (unhide hF).get (k := 2) rfl d2
        have e10 : us 10 = .pointer (some ⟨w.heap.size + 1, 0, none⟩) := (unhide hF).get (k := 5) rfl d5
        have hO := hB.ownV hE
        have c0 := hO.cell (i := 0) rfl
        have c1 := hO.cell (i := 1) rfl
        clear hO
        have HB := hide hB
        clear hB
        have HE := hide hE
        clear hE
        simp only [fillA, Act.put, List.setIfInBounds_toArray, List.set_cons_zero, List.set_cons_succ] at hNx ⊢
        simp only [e7, e10] at hNx ⊢
        clear e7 e10
        rw [if_pos (by rfl)]
        go_simp
        first | refine hNx _ _ ?_ | skip
        exact ⟨(unhide hF).step rfl rfl, (unhide HB).congr (fun k => by rcases k with _ | _ | k <;> simp [EMt])⟩
      refine StepsR.cons 8 rfl ?_ ?_
      · intro L us W hi hdep hR Kx hNx
        have hF := hide hR.1
        have hB := hR.2
        clear hR
        have d2 : L 2 = true := hdep 2 (by kernel_rfl)
        have d4 : L 4 = true := hdep 4 (by kernel_rfl)
        have d6 : L 6 = true := hdep 6 (by kernel_rfl)
        clear hdep
        have e7 : us 7 = .bool true := (unhide hF).get (k := 2) rfl d2
        have e9 : us 9 = .int .i64 n := (unhide hF).get (k := 4) rfl d4
        have e11 : us 11 = .int .i64 k := (unhide hF).get (k := 6) rfl d6
        have HB := hide hB
        clear hB
        simp only [fillA, Act.put, List.setIfInBounds_toArray, List.set_cons_zero, List.set_cons_succ] at hNx ⊢
        simp only [e7, e9, e11] at hNx ⊢
        clear e7 e9 e11
        rw [if_pos (by rfl)]
        have RS := HR1
        go_simp
        first | refine hNx _ _ ?_ | skip
        exact ⟨(unhide hF).step rfl rfl, (unhide HB).congr (fun k => by rcases k with _ | _ | k <;> simp [EMt])⟩
      refine StepsR.cons 9 rfl ?_ ?_
      · intro L us W hi hdep hR Kx hNx
        have hF := hide hR.1
        have hB := hR.2
        clear hR
        have d2 : L 2 = true := hdep 2 (by kernel_rfl)
        have d7 : L 7 = true := hdep 7 (by kernel_rfl)
        clear hdep
        have e7 : us 7 = .bool true := (unhide hF).get (k := 2) rfl d2
        have e12 : us 12 = .int .i64 x := (unhide hF).get (k := 7) rfl d7
        have HB := hide hB
        clear hB
        simp only [fillA, Act.put, List.setIfInBounds_toArray, List.set_cons_zero, List.set_cons_succ] at hNx ⊢
        simp only [e7, e12] at hNx ⊢
        clear e7 e12
        rw [if_pos (by rfl)]
        have RS := HR2
        go_simp
        first | refine hNx _ _ ?_ | skip
        exact ⟨(unhide hF).step rfl rfl, (unhide HB).congr (fun k => by rcases k with _ | _ | k <;> simp [EMt])⟩
      refine StepsR.cons 10 rfl ?_ ?_
      · intro L us W hi hdep hR Kx hNx
        have hF := hide hR.1
        have hB := hR.2
        clear hR
        have d2 : L 2 = true := hdep 2 (by kernel_rfl)
        have d8 : L 8 = true := hdep 8 (by kernel_rfl)
        clear hdep
        have e7 : us 7 = .bool true := (unhide hF).get (k := 2) rfl d2
        have e13 : us 13 = .int .i64 y := (unhide hF).get (k := 8) rfl d8
        have HB := hide hB
        clear hB
        simp only [fillA, Act.put, List.setIfInBounds_toArray, List.set_cons_zero, List.set_cons_succ] at hNx ⊢
        simp only [e7, e13] at hNx ⊢
        clear e7 e13
        rw [if_pos (by rfl)]
        have RS := hyb
        go_simp
        first | refine hNx _ _ ?_ | skip
        exact ⟨(unhide hF).step rfl rfl, (unhide HB).congr (fun k => by rcases k with _ | _ | k <;> simp [EMt])⟩
      refine StepsR.cons 11 rfl ?_ ?_
      · intro L us W hi hdep hR Kx hNx
        have hF := hide hR.1
        have hB := hR.2
        clear hR
        have d2 : L 2 = true := hdep 2 (by kernel_rfl)
        have d9 : L 9 = true := hdep 9 (by kernel_rfl)
        clear hdep
        have e7 : us 7 = .bool true := (unhide hF).get (k := 2) rfl d2
        have e14 : us 14 = .bool b := (unhide hF).get (k := 9) rfl d9
        have HB := hide hB
        clear hB
        simp only [fillA, Act.put, List.setIfInBounds_toArray, List.set_cons_zero, List.set_cons_succ] at hNx ⊢
        simp only [e7, e14] at hNx ⊢
        clear e7 e14
        rw [if_pos (by rfl)]
        go_simp
        first | refine hNx _ _ ?_ | skip
        exact ⟨(unhide hF).step rfl rfl, (unhide HB).congr (fun k => by rcases k with _ | _ | k <;> simp [EMt])⟩
      refine StepsR.cons 12 rfl ?_ ?_
      · intro L us W hi hdep hR Kx hNx
        have hF := hide hR.1
        have hB := hR.2
        clear hR
        have d10 : L 10 = true := hdep 10 (by kernel_rfl)
        clear hdep
        have e15 : us 15 = .bool b := (unhide hF).get (k := 10) rfl d10
        have HB := hide hB
        clear hB
        simp only [fillA, Act.put, List.setIfInBounds_toArray, List.set_cons_zero, List.set_cons_succ] at hNx ⊢
        simp only [e15] at hNx ⊢
        clear e15
        rw [if_pos (by rfl)]
        go_simp
        first | refine hNx _ _ ?_ | skip
        exact ⟨(unhide hF).step rfl rfl, (unhide HB).congr (fun k => by rcases k with _ | _ | k <;> simp [EMt])⟩
      exact StepsR.nil
    · intro L us W hL hR
      have hF := hide hR.1
      have hB := hR.2
      clear hR
      have hE0 : EMt q ld he lw hg lm rs k m n x y b w L us 0 = some (w.heap.size, [.int .i64 q, .int .i64 ld, .int .i64 he, .int .i64 lw, .int .i64 hg, .int .i64 lm, .int .i64 rs]) := by simp [EMt]
      have hO0 := hB.ownV hE0
      have hE1 : EMt q ld he lw hg lm rs k m n x y b w L us 1 = some (w.heap.size + 1, [.int .i64 k, .int .i64 m]) := by simp [EMt]
      have hO1 := hB.ownV hE1
      clear hE0 hE1
      have HA : Hid (Bk w W (XMt q ld he lw hg lm rs k m n x y b w)) := hide (hB.congr (fun k => by rcases k with _ | _ | k <;> simp [EMt, XMt]))
      have f0 : us 5 = .agg #[.int .i64 k, .int .i64 m] := (unhide hF).get (k := 0) rfl (hL 0 (by decide))
      have f1 : us 6 = .bool true := (unhide hF).get (k := 1) rfl (hL 1 (by decide))
      have f2 : us 7 = .bool true := (unhide hF).get (k := 2) rfl (hL 2 (by decide))
      have f3 : us 8 = .agg #[.int .i64 q, .int .i64 ld, .int .i64 he, .int .i64 lw, .int .i64 hg, .int .i64 lm, .int .i64 rs] := (unhide hF).get (k := 3) rfl (hL 3 (by decide))
      have f4 : us 9 = .int .i64 n := (unhide hF).get (k := 4) rfl (hL 4 (by decide))
      have f5 : us 10 = .pointer (some ⟨w.heap.size + 1, 0, none⟩) := (unhide hF).get (k := 5) rfl (hL 5 (by decide))
      have f6 : us 11 = .int .i64 k := (unhide hF).get (k := 6) rfl (hL 6 (by decide))
      have f7 : us 12 = .int .i64 x := (unhide hF).get (k := 7) rfl (hL 7 (by decide))
      have f8 : us 13 = .int .i64 y := (unhide hF).get (k := 8) rfl (hL 8 (by decide))
      have f9 : us 14 = .bool b := (unhide hF).get (k := 9) rfl (hL 9 (by decide))
      have f10 : us 15 = .bool b := (unhide hF).get (k := 10) rfl (hL 10 (by decide))
      have f11 : us 4 = .bool b := (unhide hF).get (k := 11) rfl (hL 11 (by decide))
      have HW := hide hB.below
      clear hB hL
      simp only [fillA, Act.put, List.setIfInBounds_toArray, List.set_cons_zero, List.set_cons_succ]
      simp only [f0, f1, f2, f3, f4, f5, f6, f7, f8, f9, f10, f11]
      clear hF f0 f1 f2 f3 f4 f5 f6 f7 f8 f9 f10 f11
      clear us L
      clear hO0 hO1 HA HO HS HR1 HR2 hyb
      go_wp2
      go_ret
      exact ⟨ret_bool (unhide HN).symm, unhide HW⟩

set_option maxRecDepth 100000 in
set_option maxHeartbeats 16000000 in
theorem behindSignal_any (q ld he lw hg lm rs k m : Int) (w : World) (hbd : 0 ≤ lw ∧ lw ≤ he ∧ he ≤ hg ∧ hg ≤ 10000) (hk : 1 ≤ k ∧ k ≤ 7) :
    Calls Try.prog 65 #[vHoist q ld he lw hg lm rs, vSignal k m] w fun e w' => e = .returned (behH ⟨q, ld, he, lw, hg, lm, rs⟩ k m).v ∧ Below w.heap.size w w' := by
  have HT := hide fun W => heightAtTick_any q ld he lw hg lm rs hbd W
  obtain ⟨tk, ek⟩ : ∃ z, z = tkHe ⟨q, ld, he, lw, hg, lm, rs⟩ := ⟨_, rfl⟩
  rw [← ek] at HT
  have HK := hide ek
  clear ek hbd
  unfold vHoist vSignal at *
  unfold Ho.v
  go_enter Try.func65, Try.ntmps65
  go_upto_region 1 with (fail)
  obtain ⟨g0, eg0⟩ : ∃ z, z = w.heap.size := ⟨_, rfl⟩
  obtain ⟨V2, eW⟩ : ∃ z, z = ((w.alloc (.cells #[.int .i64 q, .int .i64 ld, .int .i64 he, .int .i64 lw, .int .i64 hg, .int .i64 lm, .int .i64 rs] 37)).alloc (.cells #[.int .i64 k, .int .i64 m] 44)).alloc (.cells #[.int .i64 0, .int .i64 0, .int .i64 0, .int .i64 0, .int .i64 0, .int .i64 0, .int .i64 0] 37) := ⟨_, rfl⟩
  have HB := hide (((bk_two w #[.int .i64 q, .int .i64 ld, .int .i64 he, .int .i64 lw, .int .i64 hg, .int .i64 lm, .int .i64 rs] #[.int .i64 k, .int .i64 m] 37 44).made 2 #[.int .i64 0, .int .i64 0, .int .i64 0, .int .i64 0, .int .i64 0, .int .i64 0, .int .i64 0] 37))
  rw [← eW] at HB ⊢
  have HW : Hid (Below w.heap.size w V2) := (unhide HB).below
  have HH : Hid (OwnV V2 g0 [.int .i64 q, .int .i64 ld, .int .i64 he, .int .i64 lw, .int .i64 hg, .int .i64 lm, .int .i64 rs]) := by rw [eg0]; exact (unhide HB).ownV (k := 0) rfl
  have HS : Hid (OwnV V2 (g0 + 1) [.int .i64 k, .int .i64 m]) := by rw [eg0]; exact (unhide HB).ownV (k := 1) rfl
  have HR : Hid (OwnV V2 (g0 + 1 + 1) [.int .i64 0, .int .i64 0, .int .i64 0, .int .i64 0, .int .i64 0, .int .i64 0, .int .i64 0]) := by
    have := ownV_alloc ((w.alloc (.cells #[.int .i64 q, .int .i64 ld, .int .i64 he, .int .i64 lw, .int .i64 hg, .int .i64 lm, .int .i64 rs] 37)).alloc (.cells #[.int .i64 k, .int .i64 m] 44)) #[.int .i64 0, .int .i64 0, .int .i64 0, .int .i64 0, .int .i64 0, .int .i64 0, .int .i64 0] 37
    simp only [World.size_alloc] at this
    rw [eW, eg0]
    exact this
  rw [← eg0]
  have hg0 : w.heap.size ≤ g0 := by omega
  clear HB eW eg0
  obtain ⟨g1, eg1⟩ : ∃ z, z = g0 + 1 := ⟨_, rfl⟩
  rw [← eg1] at HS HR ⊢
  obtain ⟨g2, eg2⟩ : ∃ z, z = g1 + 1 := ⟨_, rfl⟩
  rw [← eg2] at HR ⊢
  have hg1 : g0 < g1 := by omega
  have hg2 : g1 < g2 := by omega
  clear eg1 eg2
  have n20 : g2 ≠ g0 := by omega
  have n21 : g2 ≠ g1 := by omega
  have n02 : g0 ≠ g2 := by omega
  have n01 : g0 ≠ g1 := by omega
  have hc : k = 1 ∨ k = 2 ∨ k = 3 ∨ k = 4 ∨ k = 5 ∨ k = 6 ∨ k = 7 := by omega
  clear hk
  have c0 := (unhide HH).cell (i := 0) rfl
  have c1 := (unhide HH).cell (i := 1) rfl
  have c2 := (unhide HH).cell (i := 2) rfl
  have c3 := (unhide HH).cell (i := 3) rfl
  have c4 := (unhide HH).cell (i := 4) rfl
  have c5 := (unhide HH).cell (i := 5) rfl
  have c6 := (unhide HH).cell (i := 6) rfl
  have cf0 := (unhide HH).frozen 0
  have cf1 := (unhide HH).frozen 1
  have cf2 := (unhide HH).frozen 2
  have cf3 := (unhide HH).frozen 3
  have cf4 := (unhide HH).frozen 4
  have cf5 := (unhide HH).frozen 5
  have cf6 := (unhide HH).frozen 6
  have s0 := (unhide HS).cell (i := 0) rfl
  have s1 := (unhide HS).cell (i := 1) rfl
  have n0 := (unhide HR).cell (i := 0) rfl
  have n1 := (unhide HR).cell (i := 1) rfl
  have n2 := (unhide HR).cell (i := 2) rfl
  have n3 := (unhide HR).cell (i := 3) rfl
  have n4 := (unhide HR).cell (i := 4) rfl
  have n5 := (unhide HR).cell (i := 5) rfl
  have n6 := (unhide HR).cell (i := 6) rfl
  have nf0 := (unhide HR).frozen 0
  have nf1 := (unhide HR).frozen 1
  have nf2 := (unhide HR).frozen 2
  have nf3 := (unhide HR).frozen 3
  have nf4 := (unhide HR).frozen 4
  have nf5 := (unhide HR).frozen 5
  have nf6 := (unhide HR).frozen 6
  rcases hc with rfl | rfl | rfl | rfl | rfl | rfl | rfl
  · skip
    have HF : Hid (behH ⟨q, ld, he, lw, hg, lm, rs⟩ 1 m = ⟨q, ld, he, lw, hg, lm, rs⟩) := by show _ = _; simp [behH]
    go_wp2
    refine bodyPost_ret (v := vHoist q ld he lw hg lm rs) (by simp [results, Try.results65, go_sem, vHoist, n0, n1, n2, n3, n4, n5, n6]) rfl ⟨?_, ?_⟩
    · rw [unhide HF]
    · repeat (refine Below.setCell ?_ (by dsimp only; omega) _)
      exact unhide HW
  · skip
    have HF : Hid (behH ⟨q, ld, he, lw, hg, lm, rs⟩ 2 m = ⟨q, ld, he, lw, hg, lm, rs⟩) := by show _ = _; simp [behH]
    go_wp2
    refine bodyPost_ret (v := vHoist q ld he lw hg lm rs) (by simp [results, Try.results65, go_sem, vHoist, n0, n1, n2, n3, n4, n5, n6]) rfl ⟨?_, ?_⟩
    · rw [unhide HF]
    · repeat (refine Below.setCell ?_ (by dsimp only; omega) _)
      exact unhide HW
  · by_cases e3 : q = 3
    · subst e3
      have HF : Hid (behH ⟨3, ld, he, lw, hg, lm, rs⟩ 3 m = ⟨3, ld, he, lw, hg, lm, 0⟩) := by show _ = _; simp [behH]
      go_wp2
      refine bodyPost_ret (v := vHoist 3 ld he lw hg lm 0) (by simp [results, Try.results65, go_sem, vHoist, n0, n1, n2, n3, n4, n5, n6]) rfl ⟨?_, ?_⟩
      · rw [unhide HF]
      · repeat (refine Below.setCell ?_ (by dsimp only; omega) _)
        exact unhide HW
    have b3 : (q == 3) = false := by simp [e3]
    have HF : Hid (behH ⟨q, ld, he, lw, hg, lm, rs⟩ 3 m = ⟨q, ld, he, lw, hg, lm, rs⟩) := by show _ = _; simp [behH, e3]
    go_wp2
    refine bodyPost_ret (v := vHoist q ld he lw hg lm rs) (by simp [results, Try.results65, go_sem, vHoist, n0, n1, n2, n3, n4, n5, n6]) rfl ⟨?_, ?_⟩
    · rw [unhide HF]
    · repeat (refine Below.setCell ?_ (by dsimp only; omega) _)
      exact unhide HW
  · skip
    have HF : Hid (behH ⟨q, ld, he, lw, hg, lm, rs⟩ 4 m = ⟨q, ld, he, lw, hg, lm, 0⟩) := by show _ = _; simp [behH]
    go_wp2
    refine bodyPost_ret (v := vHoist q ld he lw hg lm 0) (by simp [results, Try.results65, go_sem, vHoist, n0, n1, n2, n3, n4, n5, n6]) rfl ⟨?_, ?_⟩
    · rw [unhide HF]
    · repeat (refine Below.setCell ?_ (by dsimp only; omega) _)
      exact unhide HW
  · skip
    have HF : Hid (behH ⟨q, ld, he, lw, hg, lm, rs⟩ 5 m = ⟨q, ld, he, lw, hg, lm, 1⟩) := by show _ = _; simp [behH]
    go_wp2
    refine bodyPost_ret (v := vHoist q ld he lw hg lm 1) (by simp [results, Try.results65, go_sem, vHoist, n0, n1, n2, n3, n4, n5, n6]) rfl ⟨?_, ?_⟩
    · rw [unhide HF]
    · repeat (refine Below.setCell ?_ (by dsimp only; omega) _)
      exact unhide HW
  · skip
    have HF : Hid (behH ⟨q, ld, he, lw, hg, lm, rs⟩ 6 m = ⟨q, m, he, lw, hg, lm, rs⟩) := by show _ = _; simp [behH]
    go_wp2
    refine bodyPost_ret (v := vHoist q m he lw hg lm rs) (by simp [results, Try.results65, go_sem, vHoist, n0, n1, n2, n3, n4, n5, n6]) rfl ⟨?_, ?_⟩
    · rw [unhide HF]
    · repeat (refine Below.setCell ?_ (by dsimp only; omega) _)
      exact unhide HW
  · skip
    have HF : Hid (behH ⟨q, ld, he, lw, hg, lm, rs⟩ 7 m = ⟨q, ld, tk, lw, hg, lm, rs⟩) := by show _ = _; simp [behH, unhide HK]
    go_wp2_with fail
    refine (unhide HT _).mono ?_
    rintro e V3 ⟨rfl, hb⟩
    replace HW := hide (Below.step (unhide HW) hb)
    replace HH := hide (OwnV.step (unhide HH) hb)
    replace HR := hide (OwnV.step (unhide HR) hb)
    clear hb HT HS s0 s1 c0 cf0 n0 nf0 c1 cf1 n1 nf1 c2 cf2 n2 nf2 c3 cf3 n3 nf3 c4 cf4 n4 nf4 c5 cf5 n5 nf5 c6 cf6 n6 nf6
    have c0 := (unhide HH).cell (i := 0) rfl
    have c1 := (unhide HH).cell (i := 1) rfl
    have c2 := (unhide HH).cell (i := 2) rfl
    have c3 := (unhide HH).cell (i := 3) rfl
    have c4 := (unhide HH).cell (i := 4) rfl
    have c5 := (unhide HH).cell (i := 5) rfl
    have c6 := (unhide HH).cell (i := 6) rfl
    have cf0 := (unhide HH).frozen 0
    have cf1 := (unhide HH).frozen 1
    have cf2 := (unhide HH).frozen 2
    have cf3 := (unhide HH).frozen 3
    have cf4 := (unhide HH).frozen 4
    have cf5 := (unhide HH).frozen 5
    have cf6 := (unhide HH).frozen 6
    have n0 := (unhide HR).cell (i := 0) rfl
    have n1 := (unhide HR).cell (i := 1) rfl
    have n2 := (unhide HR).cell (i := 2) rfl
    have n3 := (unhide HR).cell (i := 3) rfl
    have n4 := (unhide HR).cell (i := 4) rfl
    have n5 := (unhide HR).cell (i := 5) rfl
    have n6 := (unhide HR).cell (i := 6) rfl
    have nf0 := (unhide HR).frozen 0
    have nf1 := (unhide HR).frozen 1
    have nf2 := (unhide HR).frozen 2
    have nf3 := (unhide HR).frozen 3
    have nf4 := (unhide HR).frozen 4
    have nf5 := (unhide HR).frozen 5
    have nf6 := (unhide HR).frozen 6
    go_wp2
    refine bodyPost_ret (v := vHoist q ld tk lw hg lm rs) (by simp [results, Try.results65, go_sem, vHoist, n0, n1, n2, n3, n4, n5, n6]) rfl ⟨?_, ?_⟩
    · rw [unhide HF]
    · repeat (refine Below.setCell ?_ (by dsimp only; omega) _)
      exact unhide HW

end Go.Proofs.Ytgmhijbepkobkaa

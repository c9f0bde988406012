/- The program's bearing of one ship from another. Written by wip/mkrr3.py. -/
import Derived.Test.YtcljgaofpeaplaaRrB
import Derived.Test.YtcljgaofpeaplaaRgI
namespace Go.Proofs.Ytcljgaofpeaplaa
open Go.RowKit

def EBea (ax ay au av ak ad cx cy cu cv ck cd : Int) (w : World) (L : Nat → Bool) (_us : Nat → Value) : Nat → Option (Nat × List Value)
  | 0 => some (w.heap.size, [.int .i64 ax, .int .i64 ay, .int .i64 au, .int .i64 av, .int .i64 ak, .int .i64 ad])
  | 1 => some (w.heap.size + 1, [.int .i64 cx, .int .i64 cy, .int .i64 cu, .int .i64 cv, .int .i64 ck, .int .i64 cd])
  | 2 => some (w.heap.size + 1 + 1, (if L 5 then [.int .i64 (ax - cx), .int .i64 (ay - cy)] else [.int .i64 0, .int .i64 0]))
  | _ => none
def FBea (ax ay au av ak ad cx cy cu cv ck cd : Int) : FL := [(0, 5, vShip ax ay au av ak ad), (1, 6, vV ax ay), (2, 7, vShip cx cy cu cv ck cd), (3, 8, vV cx cy), (4, 9, vV (ax - cx) (ay - cy))]
def RBea (ax ay au av ak ad cx cy cu cv ck cd : Int) (w : World) (L : Nat → Bool) (us : Nat → Value) (W : World) : Prop :=
  Facts L us (FBea ax ay au av ak ad cx cy cu cv ck cd) ∧ Bk w W (EBea ax ay au av ak ad cx cy cu cv ck cd w L us)
def XBea (ax ay au av ak ad cx cy cu cv ck cd : Int) (w : World) : Nat → Option (Nat × List Value)
  | 0 => some (w.heap.size, [.int .i64 ax, .int .i64 ay, .int .i64 au, .int .i64 av, .int .i64 ak, .int .i64 ad])
  | 1 => some (w.heap.size + 1, [.int .i64 cx, .int .i64 cy, .int .i64 cu, .int .i64 cv, .int .i64 ck, .int .i64 cd])
  | 2 => some (w.heap.size + 1 + 1, [.int .i64 (ax - cx), .int .i64 (ay - cy)])
  | _ => none
set_option maxRecDepth 10000 in
set_option maxHeartbeats 3200000 in
theorem implBearing_any (ax ay au av ak ad cx cy cu cv ck cd : Int) (w : World) (hax1 : -100000 ≤ ax) (hax2 : ax ≤ 100000) (hay1 : -100000 ≤ ay) (hay2 : ay ≤ 100000) (hcx1 : -100000 ≤ cx) (hcx2 : cx ≤ 100000) (hcy1 : -100000 ≤ cy) (hcy2 : cy ≤ 100000) :
    Calls Try.prog 28 #[vShip ax ay au av ak ad, vShip cx cy cu cv ck cd] w fun e w' => e = .returned (vV (ax - cx) (ay - cy)) ∧ Below w.heap.size w w' := by
  unfold vShip
  go_enter Try.func28, Try.ntmps28
  go_wp2_with fail
  have HB0 : Hid (∀ us, Bk w _ (EBea ax ay au av ak ad cx cy cu cv ck cd w (fun _ => false) us)) := hide (fun us => ((((bk_nil w).made 0 #[.int .i64 ax, .int .i64 ay, .int .i64 au, .int .i64 av, .int .i64 ak, .int .i64 ad] 25).made 1 #[.int .i64 cx, .int .i64 cy, .int .i64 cu, .int .i64 cv, .int .i64 ck, .int .i64 cd] 25).made 2 #[.int .i64 0, .int .i64 0] 54).congr (fun k => by rcases k with _ | _ | _ | k <;> simp [EBea]))
  refine wp_region_slots [5, 6, 7, 8, 9] (RBea ax ay au av ak ad cx cy cu cv ck cd w) (by kernel_rfl) (by kernel_rfl) (by decide) (by kernel_rfl) ?_ ?_ ?_
  · intro us
    exact ⟨facts_start us _, (unhide HB0 us).drew⟩
  · clear HB0
    refine StepsR.cons 1 rfl ?_ ?_
    · intro L us W hi hdep hR Kx hNx
      have hF := hide hR.1
      have hB := hR.2
      clear hR
      clear hdep
      have hE : EBea ax ay au av ak ad cx cy cu cv ck cd w L us 0 = some (w.heap.size, [.int .i64 ax, .int .i64 ay, .int .i64 au, .int .i64 av, .int .i64 ak, .int .i64 ad]) := by simp [EBea]
      have hO := hB.ownV hE
      have c0 := hO.cell (i := 0) rfl
      have c1 := hO.cell (i := 1) rfl
      have c2 := hO.cell (i := 2) rfl
      have c3 := hO.cell (i := 3) rfl
      have c4 := hO.cell (i := 4) rfl
      have c5 := hO.cell (i := 5) rfl
      clear hO
      have HB := hide hB
      clear hB
      have HE := hide hE
      clear hE
      simp only [fillA, Act.put, List.setIfInBounds_toArray, List.set_cons_zero, List.set_cons_succ] at hNx ⊢
      rw [if_pos (by rfl)]
      go_simp
      first | refine hNx _ _ ?_ | skip
      exact ⟨(unhide hF).step rfl rfl, (unhide HB).congr (fun k => by rcases k with _ | _ | _ | k <;> simp [EBea])⟩
    refine StepsR.cons 2 rfl ?_ ?_
    · intro L us W hi hdep hR Kx hNx
      have hF := hide hR.1
      have hB := hR.2
      clear hR
      have d0 : L 0 = true := hdep 0 (by kernel_rfl)
      clear hdep
      have e5 : us 5 = vShip ax ay au av ak ad := (unhide hF).get (k := 0) rfl d0
      have HB := hide hB
      clear hB
      simp only [fillA, Act.put, List.setIfInBounds_toArray, List.set_cons_zero, List.set_cons_succ] at hNx ⊢
      simp only [e5] at hNx ⊢
      clear e5
      rw [if_pos (by rfl)]
      have HC := hide (implPlace_any ax ay au av ak ad W)
      go_simp
      refine (unhide HC).mono ?_
      rintro e W' ⟨rfl, hb⟩
      replace HB := hide ((unhide HB).step hb)
      clear hb HC
      go_wp2_with fail
      first | refine hNx _ _ ?_ | skip
      exact ⟨(unhide hF).step rfl rfl, (unhide HB).congr (fun k => by rcases k with _ | _ | _ | k <;> simp [EBea])⟩
    refine StepsR.cons 3 rfl ?_ ?_
    · intro L us W hi hdep hR Kx hNx
      have hF := hide hR.1
      have hB := hR.2
      clear hR
      clear hdep
      have hE : EBea ax ay au av ak ad cx cy cu cv ck cd w L us 1 = some (w.heap.size + 1, [.int .i64 cx, .int .i64 cy, .int .i64 cu, .int .i64 cv, .int .i64 ck, .int .i64 cd]) := by simp [EBea]
      have hO := hB.ownV hE
      have c0 := hO.cell (i := 0) rfl
      have c1 := hO.cell (i := 1) rfl
      have c2 := hO.cell (i := 2) rfl
      have c3 := hO.cell (i := 3) rfl
      have c4 := hO.cell (i := 4) rfl
      have c5 := hO.cell (i := 5) rfl
      clear hO
      have HB := hide hB
      clear hB
      have HE := hide hE
      clear hE
      simp only [fillA, Act.put, List.setIfInBounds_toArray, List.set_cons_zero, List.set_cons_succ] at hNx ⊢
      rw [if_pos (by rfl)]
      go_simp
      first | refine hNx _ _ ?_ | skip
      exact ⟨(unhide hF).step rfl rfl, (unhide HB).congr (fun k => by rcases k with _ | _ | _ | k <;> simp [EBea])⟩
    refine StepsR.cons 4 rfl ?_ ?_
    · intro L us W hi hdep hR Kx hNx
      have hF := hide hR.1
      have hB := hR.2
      clear hR
      have d2 : L 2 = true := hdep 2 (by kernel_rfl)
      clear hdep
      have e7 : us 7 = vShip cx cy cu cv ck cd := (unhide hF).get (k := 2) rfl d2
      have HB := hide hB
      clear hB
      simp only [fillA, Act.put, List.setIfInBounds_toArray, List.set_cons_zero, List.set_cons_succ] at hNx ⊢
      simp only [e7] at hNx ⊢
      clear e7
      rw [if_pos (by rfl)]
      have HC := hide (implPlace_any cx cy cu cv ck cd W)
      go_simp
      refine (unhide HC).mono ?_
      rintro e W' ⟨rfl, hb⟩
      replace HB := hide ((unhide HB).step hb)
      clear hb HC
      go_wp2_with fail
      first | refine hNx _ _ ?_ | skip
      exact ⟨(unhide hF).step rfl rfl, (unhide HB).congr (fun k => by rcases k with _ | _ | _ | k <;> simp [EBea])⟩
    refine StepsR.cons 5 rfl ?_ ?_
    · intro L us W hi hdep hR Kx hNx
      have hF := hide hR.1
      have hB := hR.2
      clear hR
      have d1 : L 1 = true := hdep 1 (by kernel_rfl)
      have d3 : L 3 = true := hdep 3 (by kernel_rfl)
      clear hdep
      have e6 : us 6 = vV ax ay := (unhide hF).get (k := 1) rfl d1
      have e8 : us 8 = vV cx cy := (unhide hF).get (k := 3) rfl d3
      have HB := hide hB
      clear hB
      simp only [fillA, Act.put, List.setIfInBounds_toArray, List.set_cons_zero, List.set_cons_succ] at hNx ⊢
      simp only [e6, e8] at hNx ⊢
      clear e6 e8
      rw [if_pos (by rfl)]
      have HC := hide (implLess_any ax ay cx cy W hax1 hax2 hay1 hay2 hcx1 hcx2 hcy1 hcy2)
      go_simp
      refine (unhide HC).mono ?_
      rintro e W' ⟨rfl, hb⟩
      replace HB := hide ((unhide HB).step hb)
      clear hb HC
      go_wp2_with fail
      first | refine hNx _ _ ?_ | skip
      exact ⟨(unhide hF).step rfl rfl, (unhide HB).congr (fun k => by rcases k with _ | _ | _ | k <;> simp [EBea])⟩
    refine StepsR.cons 6 rfl ?_ ?_
    · intro L us W hi hdep hR Kx hNx
      have hF := hide hR.1
      have hB := hR.2
      clear hR
      have d4 : L 4 = true := hdep 4 (by kernel_rfl)
      clear hdep
      have hE : EBea ax ay au av ak ad cx cy cu cv ck cd w L us 2 = some (w.heap.size + 1 + 1, [.int .i64 0, .int .i64 0]) := by simp [EBea, *]
      have e9 : us 9 = vV (ax - cx) (ay - cy) := (unhide hF).get (k := 4) rfl d4
      have hO := hB.ownV hE
      have c0 := hO.cell (i := 0) rfl
      have c1 := hO.cell (i := 1) rfl
      have z0 := hO.frozen 0
      have z1 := hO.frozen 1
      clear hO
      have HB := hide hB
      clear hB
      have HE := hide hE
      clear hE
      simp only [fillA, Act.put, List.setIfInBounds_toArray, List.set_cons_zero, List.set_cons_succ] at hNx ⊢
      simp only [e9] at hNx ⊢
      clear e9
      rw [if_pos (by rfl)]
      have A1 := hide (((unhide HB).set (k := 2) (g := w.heap.size + 1 + 1) (vs := [.int .i64 0, .int .i64 0]) (unhide HE) 0 (.int .i64 (ax - cx)) (by simp)).set (k := 2) (g := w.heap.size + 1 + 1) (vs := [.int .i64 (ax - cx), .int .i64 0]) (by simp) 1 (.int .i64 (ay - cy)) (by simp))
      go_simp
      first | refine hNx undef _ ?_ | skip
      exact ⟨(unhide hF).stepN rfl, (unhide A1).congr (fun k => by rcases k with _ | _ | _ | k <;> simp [EBea, *])⟩
    exact StepsR.nil
  · intro L us W hL hR
    have hF := hide hR.1
    have hB := hR.2
    clear hR
    have l5 := hL 5 (by decide)
    have hE0 : EBea ax ay au av ak ad cx cy cu cv ck cd w L us 0 = some (w.heap.size, [.int .i64 ax, .int .i64 ay, .int .i64 au, .int .i64 av, .int .i64 ak, .int .i64 ad]) := by simp [EBea]
    have hO0 := hB.ownV hE0
    have hE1 : EBea ax ay au av ak ad cx cy cu cv ck cd w L us 1 = some (w.heap.size + 1, [.int .i64 cx, .int .i64 cy, .int .i64 cu, .int .i64 cv, .int .i64 ck, .int .i64 cd]) := by simp [EBea]
    have hO1 := hB.ownV hE1
    have hE2 : EBea ax ay au av ak ad cx cy cu cv ck cd w L us 2 = some (w.heap.size + 1 + 1, [.int .i64 (ax - cx), .int .i64 (ay - cy)]) := by simp [EBea, *]
    have hO2 := hB.ownV hE2
    clear hE0 hE1 hE2
    have HA : Hid (Bk w W (XBea ax ay au av ak ad cx cy cu cv ck cd w)) := hide (hB.congr (fun k => by rcases k with _ | _ | _ | k <;> simp [EBea, XBea, *]))
    have f0 : us 5 = vShip ax ay au av ak ad := (unhide hF).get (k := 0) rfl (hL 0 (by decide))
    have f1 : us 6 = vV ax ay := (unhide hF).get (k := 1) rfl (hL 1 (by decide))
    have f2 : us 7 = vShip cx cy cu cv ck cd := (unhide hF).get (k := 2) rfl (hL 2 (by decide))
    have f3 : us 8 = vV cx cy := (unhide hF).get (k := 3) rfl (hL 3 (by decide))
    have f4 : us 9 = vV (ax - cx) (ay - cy) := (unhide hF).get (k := 4) rfl (hL 4 (by decide))
    have HW := hide hB.below
    clear hB hL l5
    simp only [fillA, Act.put, List.setIfInBounds_toArray, List.set_cons_zero, List.set_cons_succ]
    simp only [f0, f1, f2, f3, f4]
    clear hF f0 f1 f2 f3 f4
    clear us L
    have r0 := hO2.cell (i := 0) rfl
    have r1 := hO2.cell (i := 1) rfl
    clear hO0 hO1 hO2
    go_wp2
    refine bodyPost_ret (v := vV (ax - cx) (ay - cy)) (by simp [results, Try.results28, go_sem, r0, r1]) rfl ⟨rfl, unhide HW⟩

end Go.Proofs.Ytcljgaofpeaplaa

/- The law of Duty, walked. Written by wip/mkexact8.py. -/
import Derived.Test.YtmgcpllkielpkaaRrK
import Derived.Test.YtmgcpllkielpkaaFlatA
import Derived.Test.YtmgcpllkielpkaaRgI
namespace Go.Proofs.Ytmgcpllkielpkaa
open Go.RowKit

def ELaDuty (ax ay au av ak ad cx cy cu cv ck cd : Int) (_V : Int) (w : World) (_L : Nat → Bool) (_us : Nat → Value) : Nat → Option (Nat × List Value)
  | 0 => some (w.heap.size, [.int .i64 ax, .int .i64 ay, .int .i64 au, .int .i64 av, .int .i64 ak, .int .i64 ad])
  | 1 => some (w.heap.size + 1, [.int .i64 cx, .int .i64 cy, .int .i64 cu, .int .i64 cv, .int .i64 ck, .int .i64 cd])
  | _ => none
def FLaDuty (ax ay au av ak ad cx cy cu cv ck cd : Int) (V : Int) : FL := [(0, 7, vShip ax ay au av ak ad), (1, 8, vShip ax ay au av ak ad), (2, 9, vShip cx cy cu cv ck cd), (3, 10, vShip cx cy cu cv ck cd), (4, 11, .int .i64 V), (5, 5, .int .i64 V)]
def RLaDuty (ax ay au av ak ad cx cy cu cv ck cd : Int) (V : Int) (w : World) (L : Nat → Bool) (us : Nat → Value) (W : World) : Prop :=
  Facts L us (FLaDuty ax ay au av ak ad cx cy cu cv ck cd V) ∧ Bk w W (ELaDuty ax ay au av ak ad cx cy cu cv ck cd V w L us)
def XLaDuty (ax ay au av ak ad cx cy cu cv ck cd : Int) (_V : Int) (w : World) : Nat → Option (Nat × List Value)
  | 0 => some (w.heap.size, [.int .i64 ax, .int .i64 ay, .int .i64 au, .int .i64 av, .int .i64 ak, .int .i64 ad])
  | 1 => some (w.heap.size + 1, [.int .i64 cx, .int .i64 cy, .int .i64 cu, .int .i64 cv, .int .i64 ck, .int .i64 cd])
  | _ => none
def ELbDuty (ax ay au av ak ad cx cy cu cv ck cd : Int) (_V : Int) (w : World) (_L : Nat → Bool) (_us : Nat → Value) : Nat → Option (Nat × List Value)
  | 0 => some (w.heap.size, [.int .i64 ax, .int .i64 ay, .int .i64 au, .int .i64 av, .int .i64 ak, .int .i64 ad])
  | 1 => some (w.heap.size + 1, [.int .i64 cx, .int .i64 cy, .int .i64 cu, .int .i64 cv, .int .i64 ck, .int .i64 cd])
  | _ => none
def FLbDuty (ax ay au av ak ad cx cy cu cv ck cd : Int) (V : Int) : FL := [(0, 12, vShip ax ay au av ak ad), (1, 13, vShip ax ay au av ak ad), (2, 14, vShip cx cy cu cv ck cd), (3, 15, vShip cx cy cu cv ck cd), (4, 16, .int .i64 V), (5, 6, .int .i64 V)]
def RLbDuty (ax ay au av ak ad cx cy cu cv ck cd : Int) (V : Int) (w : World) (L : Nat → Bool) (us : Nat → Value) (W : World) : Prop :=
  Facts L us (FLbDuty ax ay au av ak ad cx cy cu cv ck cd V) ∧ Bk w W (ELbDuty ax ay au av ak ad cx cy cu cv ck cd V w L us)
def XLbDuty (ax ay au av ak ad cx cy cu cv ck cd : Int) (_V : Int) (w : World) : Nat → Option (Nat × List Value)
  | 0 => some (w.heap.size, [.int .i64 ax, .int .i64 ay, .int .i64 au, .int .i64 av, .int .i64 ak, .int .i64 ad])
  | 1 => some (w.heap.size + 1, [.int .i64 cx, .int .i64 cy, .int .i64 cu, .int .i64 cv, .int .i64 ck, .int .i64 cd])
  | _ => none
set_option maxRecDepth 10000 in
set_option maxHeartbeats 3200000 in
theorem lawDuty_any (ax ay au av ak ad cx cy cu cv ck cd : Int) (w : World) : Calls Try.prog 9 #[vShip ax ay au av ak ad, vShip cx cy cu cv ck cd] w fun e w' => e = .returned (.bool true) ∧ Below w.heap.size w w' := by
  have HB := hide (bk_two w #[.int .i64 ax, .int .i64 ay, .int .i64 au, .int .i64 av, .int .i64 ak, .int .i64 ad] #[.int .i64 cx, .int .i64 cy, .int .i64 cu, .int .i64 cv, .int .i64 ck, .int .i64 cd] 42 42)
  have HT1 := hide fun W => toShip_any ax ay au av ak ad W
  have HT2 := hide fun W => toShip_any cx cy cu cv ck cd W
  have HS := hide fun W => specDuty_any ax ay au av ak ad cx cy cu cv ck cd W
  have HI := hide fun W => implDuty_any ax ay au av ak ad cx cy cu cv ck cd W
  obtain ⟨V, eV⟩ : ∃ V, V = duty ax ay au av ak ad cx cy cu cv ck cd := ⟨_, rfl⟩
  rw [← eV] at HS HI
  clear eV
  unfold vShip
  go_enter Try.func9, Try.ntmps9
  go_wp2_with fail
  have HB0 : Hid (∀ us, Bk w _ (ELaDuty ax ay au av ak ad cx cy cu cv ck cd V w (fun _ => false) us)) := hide (fun us => ((unhide HB)).congr (fun k => by rcases k with _ | _ | k <;> simp [ELaDuty, E2]))
  refine wp_region_slots [7, 8, 9, 10, 11, 5] (RLaDuty ax ay au av ak ad cx cy cu cv ck cd V w) (by kernel_rfl) (by kernel_rfl) (by decide) (by kernel_rfl) ?_ ?_ ?_
  · intro us
    exact ⟨facts_start us _, (unhide HB0 us).drew⟩
  · clear HB0
    refine StepsR.cons 1 rfl ?_ ?_
    · intro L us W hi hdep hR Kx hNx
      have hF := hide hR.1
      have hB := hR.2
      clear hR
      clear hdep
      have hE : ELaDuty ax ay au av ak ad cx cy cu cv ck cd V w L us 0 = some (w.heap.size, [.int .i64 ax, .int .i64 ay, .int .i64 au, .int .i64 av, .int .i64 ak, .int .i64 ad]) := by simp [ELaDuty]
      have hO := hB.ownV hE
      have c0 := hO.cell (i := 0) rfl
      have c1 := hO.cell (i := 1) rfl
      have c2 := hO.cell (i := 2) rfl
      have c3 := hO.cell (i := 3) rfl
      have c4 := hO.cell (i := 4) rfl
      have c5 := hO.cell (i := 5) rfl
      clear hO
      have HB := hide hB
      clear hB
      have HE := hide hE
      clear hE
      simp only [fillA, Act.put, List.setIfInBounds_toArray, List.set_cons_zero, List.set_cons_succ] at hNx ⊢
      rw [if_pos (by rfl)]
      go_simp
      first | refine hNx _ _ ?_ | skip
      exact ⟨(unhide hF).step rfl rfl, (unhide HB).congr (fun k => by rcases k with _ | _ | k <;> simp [ELaDuty])⟩
    refine StepsR.cons 2 rfl ?_ ?_
    · intro L us W hi hdep hR Kx hNx
      have hF := hide hR.1
      have hB := hR.2
      clear hR
      have d0 : L 0 = true := hdep 0 (by kernel_rfl)
      clear hdep
      have e7 : us 7 = vShip ax ay au av ak ad := (unhide hF).get (k := 0) rfl d0
      have HB := hide hB
      clear hB
      simp only [fillA, Act.put, List.setIfInBounds_toArray, List.set_cons_zero, List.set_cons_succ] at hNx ⊢
      simp only [e7] at hNx ⊢
      clear e7
      rw [if_pos (by rfl)]
      have HC := hide (unhide HT1 W)
      go_simp
      refine (unhide HC).mono ?_
      rintro e W' ⟨rfl, hb⟩
      replace HB := hide ((unhide HB).step hb)
      clear hb HC
      go_wp2_with fail
      first | refine hNx _ _ ?_ | skip
      exact ⟨(unhide hF).step rfl rfl, (unhide HB).congr (fun k => by rcases k with _ | _ | k <;> simp [ELaDuty])⟩
    refine StepsR.cons 3 rfl ?_ ?_
    · intro L us W hi hdep hR Kx hNx
      have hF := hide hR.1
      have hB := hR.2
      clear hR
      clear hdep
      have hE : ELaDuty ax ay au av ak ad cx cy cu cv ck cd V w L us 1 = some (w.heap.size + 1, [.int .i64 cx, .int .i64 cy, .int .i64 cu, .int .i64 cv, .int .i64 ck, .int .i64 cd]) := by simp [ELaDuty]
      have hO := hB.ownV hE
      have c0 := hO.cell (i := 0) rfl
      have c1 := hO.cell (i := 1) rfl
      have c2 := hO.cell (i := 2) rfl
      have c3 := hO.cell (i := 3) rfl
      have c4 := hO.cell (i := 4) rfl
      have c5 := hO.cell (i := 5) rfl
      clear hO
      have HB := hide hB
      clear hB
      have HE := hide hE
      clear hE
      simp only [fillA, Act.put, List.setIfInBounds_toArray, List.set_cons_zero, List.set_cons_succ] at hNx ⊢
      rw [if_pos (by rfl)]
      go_simp
      first | refine hNx _ _ ?_ | skip
      exact ⟨(unhide hF).step rfl rfl, (unhide HB).congr (fun k => by rcases k with _ | _ | k <;> simp [ELaDuty])⟩
    refine StepsR.cons 4 rfl ?_ ?_
    · intro L us W hi hdep hR Kx hNx
      have hF := hide hR.1
      have hB := hR.2
      clear hR
      have d2 : L 2 = true := hdep 2 (by kernel_rfl)
      clear hdep
      have e9 : us 9 = vShip cx cy cu cv ck cd := (unhide hF).get (k := 2) rfl d2
      have HB := hide hB
      clear hB
      simp only [fillA, Act.put, List.setIfInBounds_toArray, List.set_cons_zero, List.set_cons_succ] at hNx ⊢
      simp only [e9] at hNx ⊢
      clear e9
      rw [if_pos (by rfl)]
      have HC := hide (unhide HT2 W)
      go_simp
      refine (unhide HC).mono ?_
      rintro e W' ⟨rfl, hb⟩
      replace HB := hide ((unhide HB).step hb)
      clear hb HC
      go_wp2_with fail
      first | refine hNx _ _ ?_ | skip
      exact ⟨(unhide hF).step rfl rfl, (unhide HB).congr (fun k => by rcases k with _ | _ | k <;> simp [ELaDuty])⟩
    refine StepsR.cons 5 rfl ?_ ?_
    · intro L us W hi hdep hR Kx hNx
      have hF := hide hR.1
      have hB := hR.2
      clear hR
      have d1 : L 1 = true := hdep 1 (by kernel_rfl)
      have d3 : L 3 = true := hdep 3 (by kernel_rfl)
      clear hdep
      have e8 : us 8 = vShip ax ay au av ak ad := (unhide hF).get (k := 1) rfl d1
      have e10 : us 10 = vShip cx cy cu cv ck cd := (unhide hF).get (k := 3) rfl d3
      have HB := hide hB
      clear hB
      simp only [fillA, Act.put, List.setIfInBounds_toArray, List.set_cons_zero, List.set_cons_succ] at hNx ⊢
      simp only [e8, e10] at hNx ⊢
      clear e8 e10
      rw [if_pos (by rfl)]
      have HC := hide (unhide HS W)
      go_simp
      refine (unhide HC).mono ?_
      rintro e W' ⟨rfl, hb⟩
      replace HB := hide ((unhide HB).step hb)
      clear hb HC
      go_wp2_with fail
      first | refine hNx _ _ ?_ | skip
      exact ⟨(unhide hF).step rfl rfl, (unhide HB).congr (fun k => by rcases k with _ | _ | k <;> simp [ELaDuty])⟩
    refine StepsR.cons 6 rfl ?_ ?_
    · intro L us W hi hdep hR Kx hNx
      have hF := hide hR.1
      have hB := hR.2
      clear hR
      have d4 : L 4 = true := hdep 4 (by kernel_rfl)
      clear hdep
      have e11 : us 11 = .int .i64 V := (unhide hF).get (k := 4) rfl d4
      have HB := hide hB
      clear hB
      simp only [fillA, Act.put, List.setIfInBounds_toArray, List.set_cons_zero, List.set_cons_succ] at hNx ⊢
      simp only [e11] at hNx ⊢
      clear e11
      rw [if_pos (by rfl)]
      go_simp
      first | refine hNx _ _ ?_ | skip
      exact ⟨(unhide hF).step rfl rfl, (unhide HB).congr (fun k => by rcases k with _ | _ | k <;> simp [ELaDuty])⟩
    exact StepsR.nil
  · intro L us W hL hR
    have hF := hide hR.1
    have hB := hR.2
    clear hR
    have hE0 : ELaDuty ax ay au av ak ad cx cy cu cv ck cd V w L us 0 = some (w.heap.size, [.int .i64 ax, .int .i64 ay, .int .i64 au, .int .i64 av, .int .i64 ak, .int .i64 ad]) := by simp [ELaDuty]
    have hO0 := hB.ownV hE0
    have hE1 : ELaDuty ax ay au av ak ad cx cy cu cv ck cd V w L us 1 = some (w.heap.size + 1, [.int .i64 cx, .int .i64 cy, .int .i64 cu, .int .i64 cv, .int .i64 ck, .int .i64 cd]) := by simp [ELaDuty]
    have hO1 := hB.ownV hE1
    clear hE0 hE1
    have HA : Hid (Bk w W (XLaDuty ax ay au av ak ad cx cy cu cv ck cd V w)) := hide (hB.congr (fun k => by rcases k with _ | _ | k <;> simp [ELaDuty, XLaDuty]))
    have f0 : us 7 = vShip ax ay au av ak ad := (unhide hF).get (k := 0) rfl (hL 0 (by decide))
    have f1 : us 8 = vShip ax ay au av ak ad := (unhide hF).get (k := 1) rfl (hL 1 (by decide))
    have f2 : us 9 = vShip cx cy cu cv ck cd := (unhide hF).get (k := 2) rfl (hL 2 (by decide))
    have f3 : us 10 = vShip cx cy cu cv ck cd := (unhide hF).get (k := 3) rfl (hL 3 (by decide))
    have f4 : us 11 = .int .i64 V := (unhide hF).get (k := 4) rfl (hL 4 (by decide))
    have f5 : us 5 = .int .i64 V := (unhide hF).get (k := 5) rfl (hL 5 (by decide))
    have HW := hide hB.below
    clear hB hL
    simp only [fillA, Act.put, List.setIfInBounds_toArray, List.set_cons_zero, List.set_cons_succ]
    simp only [f0, f1, f2, f3, f4, f5]
    clear hF f0 f1 f2 f3 f4 f5
    clear us L
    clear hO0 hO1 HB HW
    go_wp2_with fail
    have HB0 : Hid (∀ us, Bk w _ (ELbDuty ax ay au av ak ad cx cy cu cv ck cd V w (fun _ => false) us)) := hide (fun us => ((unhide HA)).congr (fun k => by rcases k with _ | _ | k <;> simp [ELbDuty, XLaDuty]))
    refine wp_region_slots [12, 13, 14, 15, 16, 6] (RLbDuty ax ay au av ak ad cx cy cu cv ck cd V w) (by kernel_rfl) (by kernel_rfl) (by decide) (by kernel_rfl) ?_ ?_ ?_
    · intro us
      exact ⟨facts_start us _, (unhide HB0 us).drew⟩
    · clear HB0
      refine StepsR.cons 1 rfl ?_ ?_
      · intro L us W hi hdep hR Kx hNx
        have hF := hide hR.1
        have hB := hR.2
        clear hR
        clear hdep
        have hE : ELbDuty ax ay au av ak ad cx cy cu cv ck cd V w L us 0 = some (w.heap.size, [.int .i64 ax, .int .i64 ay, .int .i64 au, .int .i64 av, .int .i64 ak, .int .i64 ad]) := by simp [ELbDuty]
        have hO := hB.ownV hE
        have c0 := hO.cell (i := 0) rfl
        have c1 := hO.cell (i := 1) rfl
        have c2 := hO.cell (i := 2) rfl
        have c3 := hO.cell (i := 3) rfl
        have c4 := hO.cell (i := 4) rfl
        have c5 := hO.cell (i := 5) rfl
        clear hO
        have HB := hide hB
        clear hB
        have HE := hide hE
        clear hE
        simp only [fillA, Act.put, List.setIfInBounds_toArray, List.set_cons_zero, List.set_cons_succ] at hNx ⊢
        rw [if_pos (by rfl)]
        go_simp
        first | refine hNx _ _ ?_ | skip
        exact ⟨(unhide hF).step rfl rfl, (unhide HB).congr (fun k => by rcases k with _ | _ | k <;> simp [ELbDuty])⟩
      refine StepsR.cons 2 rfl ?_ ?_
      · intro L us W hi hdep hR Kx hNx
        have hF := hide hR.1
        have hB := hR.2
        clear hR
        have d0 : L 0 = true := hdep 0 (by kernel_rfl)
        clear hdep
        have e12 : us 12 = vShip ax ay au av ak ad := (unhide hF).get (k := 0) rfl d0
        have HB := hide hB
        clear hB
        simp only [fillA, Act.put, List.setIfInBounds_toArray, List.set_cons_zero, List.set_cons_succ] at hNx ⊢
        simp only [e12] at hNx ⊢
        clear e12
        rw [if_pos (by rfl)]
        have HC := hide (unhide HT1 W)
        go_simp
        refine (unhide HC).mono ?_
        rintro e W' ⟨rfl, hb⟩
        replace HB := hide ((unhide HB).step hb)
        clear hb HC
        go_wp2_with fail
        first | refine hNx _ _ ?_ | skip
        exact ⟨(unhide hF).step rfl rfl, (unhide HB).congr (fun k => by rcases k with _ | _ | k <;> simp [ELbDuty])⟩
      refine StepsR.cons 3 rfl ?_ ?_
      · intro L us W hi hdep hR Kx hNx
        have hF := hide hR.1
        have hB := hR.2
        clear hR
        clear hdep
        have hE : ELbDuty ax ay au av ak ad cx cy cu cv ck cd V w L us 1 = some (w.heap.size + 1, [.int .i64 cx, .int .i64 cy, .int .i64 cu, .int .i64 cv, .int .i64 ck, .int .i64 cd]) := by simp [ELbDuty]
        have hO := hB.ownV hE
        have c0 := hO.cell (i := 0) rfl
        have c1 := hO.cell (i := 1) rfl
        have c2 := hO.cell (i := 2) rfl
        have c3 := hO.cell (i := 3) rfl
        have c4 := hO.cell (i := 4) rfl
        have c5 := hO.cell (i := 5) rfl
        clear hO
        have HB := hide hB
        clear hB
        have HE := hide hE
        clear hE
        simp only [fillA, Act.put, List.setIfInBounds_toArray, List.set_cons_zero, List.set_cons_succ] at hNx ⊢
        rw [if_pos (by rfl)]
        go_simp
        first | refine hNx _ _ ?_ | skip
        exact ⟨(unhide hF).step rfl rfl, (unhide HB).congr (fun k => by rcases k with _ | _ | k <;> simp [ELbDuty])⟩
      refine StepsR.cons 4 rfl ?_ ?_
      · intro L us W hi hdep hR Kx hNx
        have hF := hide hR.1
        have hB := hR.2
        clear hR
        have d2 : L 2 = true := hdep 2 (by kernel_rfl)
        clear hdep
        have e14 : us 14 = vShip cx cy cu cv ck cd := (unhide hF).get (k := 2) rfl d2
        have HB := hide hB
        clear hB
        simp only [fillA, Act.put, List.setIfInBounds_toArray, List.set_cons_zero, List.set_cons_succ] at hNx ⊢
        simp only [e14] at hNx ⊢
        clear e14
        rw [if_pos (by rfl)]
        have HC := hide (unhide HT2 W)
        go_simp
        refine (unhide HC).mono ?_
        rintro e W' ⟨rfl, hb⟩
        replace HB := hide ((unhide HB).step hb)
        clear hb HC
        go_wp2_with fail
        first | refine hNx _ _ ?_ | skip
        exact ⟨(unhide hF).step rfl rfl, (unhide HB).congr (fun k => by rcases k with _ | _ | k <;> simp [ELbDuty])⟩
      refine StepsR.cons 5 rfl ?_ ?_
      · intro L us W hi hdep hR Kx hNx
        have hF := hide hR.1
        have hB := hR.2
        clear hR
        have d1 : L 1 = true := hdep 1 (by kernel_rfl)
        have d3 : L 3 = true := hdep 3 (by kernel_rfl)
        clear hdep
        have e13 : us 13 = vShip ax ay au av ak ad := (unhide hF).get (k := 1) rfl d1
        have e15 : us 15 = vShip cx cy cu cv ck cd := (unhide hF).get (k := 3) rfl d3
        have HB := hide hB
        clear hB
        simp only [fillA, Act.put, List.setIfInBounds_toArray, List.set_cons_zero, List.set_cons_succ] at hNx ⊢
        simp only [e13, e15] at hNx ⊢
        clear e13 e15
        rw [if_pos (by rfl)]
        have HC := hide (unhide HI W)
        go_simp
        refine (unhide HC).mono ?_
        rintro e W' ⟨rfl, hb⟩
        replace HB := hide ((unhide HB).step hb)
        clear hb HC
        go_wp2_with fail
        first | refine hNx _ _ ?_ | skip
        exact ⟨(unhide hF).step rfl rfl, (unhide HB).congr (fun k => by rcases k with _ | _ | k <;> simp [ELbDuty])⟩
      refine StepsR.cons 6 rfl ?_ ?_
      · intro L us W hi hdep hR Kx hNx
        have hF := hide hR.1
        have hB := hR.2
        clear hR
        have d4 : L 4 = true := hdep 4 (by kernel_rfl)
        clear hdep
        have e16 : us 16 = .int .i64 V := (unhide hF).get (k := 4) rfl d4
        have HB := hide hB
        clear hB
        simp only [fillA, Act.put, List.setIfInBounds_toArray, List.set_cons_zero, List.set_cons_succ] at hNx ⊢
        simp only [e16] at hNx ⊢
        clear e16
        rw [if_pos (by rfl)]
        go_simp
        first | refine hNx _ _ ?_ | skip
        exact ⟨(unhide hF).step rfl rfl, (unhide HB).congr (fun k => by rcases k with _ | _ | k <;> simp [ELbDuty])⟩
      exact StepsR.nil
    · intro L us W hL hR
      have hF := hide hR.1
      have hB := hR.2
      clear hR
      have hE0 : ELbDuty ax ay au av ak ad cx cy cu cv ck cd V w L us 0 = some (w.heap.size, [.int .i64 ax, .int .i64 ay, .int .i64 au, .int .i64 av, .int .i64 ak, .int .i64 ad]) := by simp [ELbDuty]
      have hO0 := hB.ownV hE0
      have hE1 : ELbDuty ax ay au av ak ad cx cy cu cv ck cd V w L us 1 = some (w.heap.size + 1, [.int .i64 cx, .int .i64 cy, .int .i64 cu, .int .i64 cv, .int .i64 ck, .int .i64 cd]) := by simp [ELbDuty]
      have hO1 := hB.ownV hE1
      clear hE0 hE1
      have HA : Hid (Bk w W (XLbDuty ax ay au av ak ad cx cy cu cv ck cd V w)) := hide (hB.congr (fun k => by rcases k with _ | _ | k <;> simp [ELbDuty, XLbDuty]))
      have f0 : us 12 = vShip ax ay au av ak ad := (unhide hF).get (k := 0) rfl (hL 0 (by decide))
      have f1 : us 13 = vShip ax ay au av ak ad := (unhide hF).get (k := 1) rfl (hL 1 (by decide))
      have f2 : us 14 = vShip cx cy cu cv ck cd := (unhide hF).get (k := 2) rfl (hL 2 (by decide))
      have f3 : us 15 = vShip cx cy cu cv ck cd := (unhide hF).get (k := 3) rfl (hL 3 (by decide))
      have f4 : us 16 = .int .i64 V := (unhide hF).get (k := 4) rfl (hL 4 (by decide))
      have f5 : us 6 = .int .i64 V := (unhide hF).get (k := 5) rfl (hL 5 (by decide))
      have HW := hide hB.below
      clear hB hL
      simp only [fillA, Act.put, List.setIfInBounds_toArray, List.set_cons_zero, List.set_cons_succ]
      simp only [f0, f1, f2, f3, f4, f5]
      clear hF f0 f1 f2 f3 f4 f5
      clear us L
      clear hO0 hO1 HA HT1 HT2 HS HI
      go_wp2
      go_ret
      exact ⟨rfl, unhide HW⟩

end Go.Proofs.Ytmgcpllkielpkaa

/- Stowage: the program's StowCode, whole. Written by wip/mksto2.py. -/
import Derived.Test.YtnfdokcpjcnknaaStoG
namespace Go.Proofs.Ytnfdokcpjcnknaa
open Go.RowKit
theorem enter_isWrong (args : Array Value) (W : World) : (callFunc 39 args).run Try.prog W = .ok (.enter 39 args) W := by simp [go_sem]
theorem enter_isTwice (args : Array Value) (W : World) : (callFunc 40 args).run Try.prog W = .ok (.enter 40 args) W := by simp [go_sem]
theorem enter_isOutside (args : Array Value) (W : World) : (callFunc 41 args).run Try.prog W = .ok (.enter 41 args) W := by simp [go_sem]
theorem enter_isFloating (args : Array Value) (W : World) : (callFunc 42 args).run Try.prog W = .ok (.enter 42 args) W := by simp [go_sem]
theorem enter_isBadlyStacked (args : Array Value) (W : World) : (callFunc 43 args).run Try.prog W = .ok (.enter 43 args) W := by simp [go_sem]
theorem enter_isUnplugged (args : Array Value) (W : World) : (callFunc 44 args).run Try.prog W = .ok (.enter 44 args) W := by simp [go_sem]
theorem enter_isTooNear (args : Array Value) (W : World) : (callFunc 45 args).run Try.prog W = .ok (.enter 45 args) W := by simp [go_sem]

set_option maxRecDepth 10000 in
set_option maxHeartbeats 6400000 in
theorem mustBeWell_any (ho : Option Addr) (hcap : Nat) (ao : Option Addr) (cap : Nat) (H : List HatchT) (L : List StowT) (w : World) (hH : RHatch w (.slice ho H.length hcap) H) (hL : RStow w (.slice ao L.length cap) L) :
    Calls Try.prog 26 #[.agg #[.slice ho H.length hcap, .slice ao L.length cap]] w fun e w' =>
      ((stowC H L = (0, 0) ∧ e = .returned (.tuple #[])) ∨ ((stowC H L).1 ≠ 0 ∧ e = .panicked [{ v := .iface 73 (.agg #[.int .i64 (stowC H L).1, .int .i64 (stowC H L).2]), recovered := false }])) ∧ Below w.heap.size w w' := by
  have HRL := hide hL
  have HRH := hide hH
  have hmf : ∀ (fn : Fn) (first cap : Array Value) (w : World), (Instr.makeFunc fn first cap).run Try.prog w = .ok (.func fn first cap) w := fun _ _ _ _ => rfl
  have QH := hide fun V (hV : RHatch V (.slice ho H.length hcap) H) => implHatchesOk_any _ H V hV
  have EBad := hide (stowC_bad (H := H) (L := L))
  have EHit := hide fun c i hh hl => stowC_hit (H := H) (L := L) (c := c) (i := i) hh hl
  have EWell := hide (stowC_well (H := H) (L := L))
  have HB := hide (ownV_alloc w #[.slice ho H.length hcap, .slice ao L.length cap] 57)
  have HW := hide (Below.alloc1 w (.cells #[.slice ho H.length hcap, .slice ao L.length cap] 57))
  have b0 := (unhide HB).cell (i := 0) rfl
  clear hH hL
  go_enter Try.func26, Try.ntmps26
  go_wp2_with fail
  refine (unhide QH _ ((unhide HRH).below (unhide HW))).mono ?_
  rintro e w1 ⟨rfl, hb⟩
  replace HW := hide (Below.step (unhide HW) hb)
  replace HB := hide ((unhide HB).step hb)
  clear hb QH b0
  have b0 := (unhide HB).cell (i := 0) rfl
  have b1 := (unhide HB).cell (i := 1) rfl
  cases hh : hatB H with
  | false =>
    have E := hide (unhide EBad (Or.inl hh))
    go_wp2
    exact ⟨rfl, Or.inr ⟨by rw [unhide E]; decide, by rw [unhide E]⟩, unhide HW⟩
  | true =>
  by_cases h40 : 40 < L.length
  · have E := hide (unhide EBad (Or.inr h40))
    have h40i : (40 : Int) < L.length := by omega
    go_wp2
    exact ⟨rfl, Or.inr ⟨by rw [unhide E]; decide, by rw [unhide E]⟩, unhide HW⟩
  have h40i : ¬ (40 : Int) < L.length := by omega
  have hl40 : L.length ≤ 40 := by omega
  have HHT := hide hh
  replace EHit := hide fun c i => unhide EHit c i hh hl40
  replace EWell := hide (unhide EWell hh hl40)
  have P0 : Hid (∀ d, 1 ≤ d → d < 1 → ∀ r, r < L.length → failC H L d r = false) := fun d h1 h2 => by omega
  clear hh EBad h40
  go_wp2_with fail
  refine (mustNotBe_any 39 1 (failC H L 1) _ _ ao L.length cap _ rfl (by omega) enter_isWrong (fun k V hk hV => isWrong_any ho hcap ao cap H L k V ((unhide HRH).below (Below.step (unhide HW) hV)) ((unhide HRL).below (Below.step (unhide HW) hV)) hk)).mono ?_
  rintro e v1 ⟨hres, hb⟩
  replace HW := hide (Below.step (unhide HW) hb)
  replace HB := hide ((unhide HB).step hb)
  clear hb b0 b1
  have b0 := (unhide HB).cell (i := 0) rfl
  have b1 := (unhide HB).cell (i := 1) rfl
  rcases hres with ⟨ha, rfl⟩ | ⟨k, hk, hp, hpa, rfl⟩
  case inr =>
    have E := hide (unhide EHit 1 k (by omega) (by omega) hk hp hpa (unhide P0))
    clear hp hpa hk
    go_wp2
    exact ⟨rfl, Or.inr ⟨by rw [unhide E]; simp, by rw [unhide E]; rfl⟩, unhide HW⟩
  have P1 : Hid (∀ d, 1 ≤ d → d < 2 → ∀ r, r < L.length → failC H L d r = false) := fun d h1 h2 r hr => by
    by_cases e : d = 1
    · rw [e]; exact ha r hr
    · exact unhide P0 d h1 (by omega) r hr
  clear ha
  go_wp2_with fail
  refine (mustNotBe_any 40 2 (failC H L 2) _ _ ao L.length cap _ rfl (by omega) enter_isTwice (fun k V hk hV => isTwice_any ho hcap ao cap H L k V ((unhide HRH).below (Below.step (unhide HW) hV)) ((unhide HRL).below (Below.step (unhide HW) hV)) hk)).mono ?_
  rintro e v2 ⟨hres, hb⟩
  replace HW := hide (Below.step (unhide HW) hb)
  replace HB := hide ((unhide HB).step hb)
  clear hb b0 b1
  have b0 := (unhide HB).cell (i := 0) rfl
  have b1 := (unhide HB).cell (i := 1) rfl
  rcases hres with ⟨ha, rfl⟩ | ⟨k, hk, hp, hpa, rfl⟩
  case inr =>
    have E := hide (unhide EHit 2 k (by omega) (by omega) hk hp hpa (unhide P1))
    clear hp hpa hk
    go_wp2
    exact ⟨rfl, Or.inr ⟨by rw [unhide E]; simp, by rw [unhide E]; rfl⟩, unhide HW⟩
  have P2 : Hid (∀ d, 1 ≤ d → d < 3 → ∀ r, r < L.length → failC H L d r = false) := fun d h1 h2 r hr => by
    by_cases e : d = 2
    · rw [e]; exact ha r hr
    · exact unhide P1 d h1 (by omega) r hr
  clear ha
  go_wp2_with fail
  refine (mustNotBe_any 41 3 (failC H L 3) _ _ ao L.length cap _ rfl (by omega) enter_isOutside (fun k V hk hV => isOutside_any ho hcap ao cap H L k V ((unhide HRH).below (Below.step (unhide HW) hV)) ((unhide HRL).below (Below.step (unhide HW) hV)) hk (unhide HHT))).mono ?_
  rintro e v3 ⟨hres, hb⟩
  replace HW := hide (Below.step (unhide HW) hb)
  replace HB := hide ((unhide HB).step hb)
  clear hb b0 b1
  have b0 := (unhide HB).cell (i := 0) rfl
  have b1 := (unhide HB).cell (i := 1) rfl
  rcases hres with ⟨ha, rfl⟩ | ⟨k, hk, hp, hpa, rfl⟩
  case inr =>
    have E := hide (unhide EHit 3 k (by omega) (by omega) hk hp hpa (unhide P2))
    clear hp hpa hk
    go_wp2
    exact ⟨rfl, Or.inr ⟨by rw [unhide E]; simp, by rw [unhide E]; rfl⟩, unhide HW⟩
  have P3' : Hid (∀ d, 1 ≤ d → d < 4 → ∀ r, r < L.length → failC H L d r = false) := fun d h1 h2 r hr => by
    by_cases e : d = 3
    · rw [e]; exact ha r hr
    · exact unhide P2 d h1 (by omega) r hr
  clear ha
  have P3 : Hid (∀ k, k < L.length → f3 H L k = false) := fun k hk => unhide P3' 3 (by omega) (by omega) k hk
  go_wp2_with fail
  refine (mustNotBe_any 42 4 (failC H L 4) _ _ ao L.length cap _ rfl (by omega) enter_isFloating (fun k V hk hV => isFloating_any ho hcap ao cap H L k V ((unhide HRH).below (Below.step (unhide HW) hV)) ((unhide HRL).below (Below.step (unhide HW) hV)) hk (unhide HHT) (unhide P3 k hk))).mono ?_
  rintro e v4 ⟨hres, hb⟩
  replace HW := hide (Below.step (unhide HW) hb)
  replace HB := hide ((unhide HB).step hb)
  clear hb b0 b1
  have b0 := (unhide HB).cell (i := 0) rfl
  have b1 := (unhide HB).cell (i := 1) rfl
  rcases hres with ⟨ha, rfl⟩ | ⟨k, hk, hp, hpa, rfl⟩
  case inr =>
    have E := hide (unhide EHit 4 k (by omega) (by omega) hk hp hpa (unhide P3'))
    clear hp hpa hk
    go_wp2
    exact ⟨rfl, Or.inr ⟨by rw [unhide E]; simp, by rw [unhide E]; rfl⟩, unhide HW⟩
  have P4 : Hid (∀ d, 1 ≤ d → d < 5 → ∀ r, r < L.length → failC H L d r = false) := fun d h1 h2 r hr => by
    by_cases e : d = 4
    · rw [e]; exact ha r hr
    · exact unhide P3' d h1 (by omega) r hr
  clear ha
  have HPK : Hid (∀ x y, pkT L x y 6 = stkL L x y) := fun x y => pk_stk (f2_apart (fun i hi => unhide P4 2 (by omega) (by omega) i hi)) (fun i hi => (f3_bd (unhide HHT) (unhide P3 i hi)).2.2.2)
  go_wp2_with fail
  refine (mustNotBe_any 43 5 (failC H L 5) _ _ ao L.length cap _ rfl (by omega) enter_isBadlyStacked (fun k V hk hV => isBadlyStacked_any ho hcap ao cap H L k V ((unhide HRH).below (Below.step (unhide HW) hV)) ((unhide HRL).below (Below.step (unhide HW) hV)) hk (unhide HHT) (unhide P3 k hk) hl40 (unhide HPK))).mono ?_
  rintro e v5 ⟨hres, hb⟩
  replace HW := hide (Below.step (unhide HW) hb)
  replace HB := hide ((unhide HB).step hb)
  clear hb b0 b1
  have b0 := (unhide HB).cell (i := 0) rfl
  have b1 := (unhide HB).cell (i := 1) rfl
  rcases hres with ⟨ha, rfl⟩ | ⟨k, hk, hp, hpa, rfl⟩
  case inr =>
    have E := hide (unhide EHit 5 k (by omega) (by omega) hk hp hpa (unhide P4))
    clear hp hpa hk
    go_wp2
    exact ⟨rfl, Or.inr ⟨by rw [unhide E]; simp, by rw [unhide E]; rfl⟩, unhide HW⟩
  have P5 : Hid (∀ d, 1 ≤ d → d < 6 → ∀ r, r < L.length → failC H L d r = false) := fun d h1 h2 r hr => by
    by_cases e : d = 5
    · rw [e]; exact ha r hr
    · exact unhide P4 d h1 (by omega) r hr
  clear ha
  go_wp2_with fail
  refine (mustNotBe_any 44 6 (failC H L 6) _ _ ao L.length cap _ rfl (by omega) enter_isUnplugged (fun k V hk hV => isUnplugged_any ho hcap ao cap H L k V ((unhide HRH).below (Below.step (unhide HW) hV)) ((unhide HRL).below (Below.step (unhide HW) hV)) hk (unhide HHT) (unhide P3 k hk))).mono ?_
  rintro e v6 ⟨hres, hb⟩
  replace HW := hide (Below.step (unhide HW) hb)
  replace HB := hide ((unhide HB).step hb)
  clear hb b0 b1
  have b0 := (unhide HB).cell (i := 0) rfl
  have b1 := (unhide HB).cell (i := 1) rfl
  rcases hres with ⟨ha, rfl⟩ | ⟨k, hk, hp, hpa, rfl⟩
  case inr =>
    have E := hide (unhide EHit 6 k (by omega) (by omega) hk hp hpa (unhide P5))
    clear hp hpa hk
    go_wp2
    exact ⟨rfl, Or.inr ⟨by rw [unhide E]; simp, by rw [unhide E]; rfl⟩, unhide HW⟩
  have P6 : Hid (∀ d, 1 ≤ d → d < 7 → ∀ r, r < L.length → failC H L d r = false) := fun d h1 h2 r hr => by
    by_cases e : d = 6
    · rw [e]; exact ha r hr
    · exact unhide P5 d h1 (by omega) r hr
  clear ha
  go_wp2_with fail
  refine (mustNotBe_any 45 7 (failC H L 7) _ _ ao L.length cap _ rfl (by omega) enter_isTooNear (fun k V hk hV => isTooNear_any ho hcap ao cap H L k V ((unhide HRH).below (Below.step (unhide HW) hV)) ((unhide HRL).below (Below.step (unhide HW) hV)) hk)).mono ?_
  rintro e v7 ⟨hres, hb⟩
  replace HW := hide (Below.step (unhide HW) hb)
  replace HB := hide ((unhide HB).step hb)
  clear hb b0 b1
  have b0 := (unhide HB).cell (i := 0) rfl
  have b1 := (unhide HB).cell (i := 1) rfl
  rcases hres with ⟨ha, rfl⟩ | ⟨k, hk, hp, hpa, rfl⟩
  case inr =>
    have E := hide (unhide EHit 7 k (by omega) (by omega) hk hp hpa (unhide P6))
    clear hp hpa hk
    go_wp2
    exact ⟨rfl, Or.inr ⟨by rw [unhide E]; simp, by rw [unhide E]; rfl⟩, unhide HW⟩
  have P7 : Hid (∀ d, 1 ≤ d → d < 8 → ∀ r, r < L.length → failC H L d r = false) := fun d h1 h2 r hr => by
    by_cases e : d = 7
    · rw [e]; exact ha r hr
    · exact unhide P6 d h1 (by omega) r hr
  clear ha
  have E := hide (unhide EWell (fun d h1 h2 => unhide P7 d h1 (by omega)))
  go_wp2
  go_end0
  exact ⟨Or.inl ⟨unhide E, rfl⟩, unhide HW⟩

set_option maxRecDepth 10000 in
set_option maxHeartbeats 6400000 in
theorem implStowCode_any (bv lv : Value) (H : List HatchT) (L : List StowT) (w : World) (hH : RHatch w bv H) (hL : RStow w lv L) :
    Calls Try.prog 7 #[bv, lv] w fun e w' => e = .returned (.tuple #[.int .i64 (stowC H L).1, .int .i64 (stowC H L).2]) ∧ Below w.heap.size w w' := by
  have HRL := hide hL
  have HRH := hide hH
  obtain ⟨ao, cap, rfl, _⟩ := hL
  obtain ⟨ho, hcap, rfl, _⟩ := hH
  have hmf : ∀ (fn : Fn) (first cap : Array Value) (w : World), (Instr.makeFunc fn first cap).run Try.prog w = .ok (.func fn first cap) w := fun _ _ _ _ => rfl
  have QM := hide fun V h1 h2 => mustBeWell_any ho hcap ao cap H L V h1 h2
  obtain ⟨V0, eV⟩ : ∃ V, V = (w.alloc (.cells #[.int .i64 0] 3)).alloc (.cells #[.int .i64 0] 3) := ⟨_, rfl⟩
  have HW : Hid (Below w.heap.size w V0) := by show Below _ _ _; rw [eV]; exact Below.step (Below.alloc1 _ _) (Below.alloc1 _ _)
  have HP : Hid (OwnV V0 w.heap.size [.int .i64 0]) := by
    show OwnV _ _ _
    rw [eV]
    exact OwnV.alloc (ownV_alloc w #[.int .i64 0] 3) _
  have HQ : Hid (OwnV V0 (w.heap.size + 1) [.int .i64 0]) := by
    show OwnV _ _ _
    rw [eV]
    have h := ownV_alloc (w.alloc (.cells #[.int .i64 0] 3)) #[.int .i64 0] 3
    simp only [World.size_alloc] at h
    exact h
  generalize stowC H L = C at *
  obtain ⟨c, k⟩ := C
  dsimp only at QM ⊢
  go_enter_defers Try.func7, Try.ntmps7
  go_wp2_with fail
  rw [← eV]
  clear eV
  refine (unhide QM _ ((unhide HRH).below (unhide HW)) ((unhide HRL).below (unhide HW))).mono ?_
  rintro e w1 ⟨hres, hb⟩
  replace HW := hide (Below.step (unhide HW) hb)
  replace HP := hide ((unhide HP).step hb)
  replace HQ := hide ((unhide HQ).step hb)
  have p0 := (unhide HP).cell (i := 0) rfl
  have q0 := (unhide HQ).cell (i := 0) rfl
  have pf := (unhide HP).frozen 0
  have qf := (unhide HQ).frozen 0
  have hne : w.heap.size ≠ w.heap.size + 1 := by omega
  clear hb QM
  rcases hres with ⟨hC, rfl⟩ | ⟨hC, rfl⟩
  · simp only [Prod.mk.injEq] at hC
    obtain ⟨rfl, rfl⟩ := hC
    have n1 : w.heap.size ≠ (⟨w.heap.size + 1, 0, none⟩ : Addr).block := by show w.heap.size ≠ w.heap.size + 1; omega
    have n2 : w.heap.size + 1 ≠ (⟨w.heap.size, 0, none⟩ : Addr).block := by show w.heap.size + 1 ≠ w.heap.size; omega
    have l2 : w.heap.size ≤ (⟨w.heap.size + 1, 0, none⟩ : Addr).block := by show w.heap.size ≤ w.heap.size + 1; omega
    have HP2 := hide (((unhide HP).set 0 (.int .i64 0) (by simp)).other (a := ⟨w.heap.size + 1, 0, none⟩) n1 (.int .i64 0))
    have HQ2 := hide (((unhide HQ).other (a := ⟨w.heap.size, 0, none⟩) n2 (.int .i64 0)).set 0 (.int .i64 0) (by simp))
    have HW2 := hide (((unhide HW).setCell (p := ⟨w.heap.size, 0, none⟩) (Nat.le_refl _) (.int .i64 0)).setCell (p := ⟨w.heap.size + 1, 0, none⟩) l2 (.int .i64 0))
    go_wp2
    generalize (w1.setCell ⟨w.heap.size, 0, none⟩ (.int .i64 0)).setCell ⟨w.heap.size + 1, 0, none⟩ (.int .i64 0) = W2 at *
    refine leaves_cons (f := 24) (args := #[.pointer (some ⟨w.heap.size, 0, none⟩), .pointer (some ⟨w.heap.size + 1, 0, none⟩)]) (by simp) (by simp [go_sem]) ?_
    refine (stowCatch_n ⟨w.heap.size, 0, none⟩ ⟨w.heap.size + 1, 0, none⟩ (.int .i64 0) (.int .i64 0) _ ((unhide HP2).cell (i := 0) rfl) ((unhide HP2).frozen 0) ((unhide HQ2).cell (i := 0) rfl) ((unhide HQ2).frozen 0) hne).mono ?_
    rintro e u' w'' ⟨rfl, rfl, rfl⟩
    have HP3 := (((unhide HP2).set 0 (.int .i64 0) (by simp)).other (a := ⟨w.heap.size + 1, 0, none⟩) n1 (.int .i64 0)).cell (i := 0) rfl
    have HQ3 := (((unhide HQ2).other (a := ⟨w.heap.size, 0, none⟩) n2 (.int .i64 0)).set 0 (.int .i64 0) (by simp)).cell (i := 0) rfl
    refine ⟨.tuple #[.int .i64 0, .int .i64 0], by simp [results, Try.results7, go_sem, HP3, HQ3], rfl, ?_⟩
    exact ((unhide HW2).setCell (p := ⟨w.heap.size, 0, none⟩) (Nat.le_refl _) _).setCell (p := ⟨w.heap.size + 1, 0, none⟩) l2 _
  · have n1 : w.heap.size ≠ (⟨w.heap.size + 1, 0, none⟩ : Addr).block := by show w.heap.size ≠ w.heap.size + 1; omega
    have n2 : w.heap.size + 1 ≠ (⟨w.heap.size, 0, none⟩ : Addr).block := by show w.heap.size + 1 ≠ w.heap.size; omega
    have l2 : w.heap.size ≤ (⟨w.heap.size + 1, 0, none⟩ : Addr).block := by show w.heap.size ≤ w.heap.size + 1; omega
    clear hC
    go_wp2
    refine leaves_cons (f := 24) (args := #[.pointer (some ⟨w.heap.size, 0, none⟩), .pointer (some ⟨w.heap.size + 1, 0, none⟩)]) (by simp) (by simp [go_sem]) ?_
    refine (stowCatch_p ⟨w.heap.size, 0, none⟩ ⟨w.heap.size + 1, 0, none⟩ c k (.int .i64 0) (.int .i64 0) [] _ ((unhide HP).cell (i := 0) rfl) ((unhide HP).frozen 0) ((unhide HQ).cell (i := 0) rfl) ((unhide HQ).frozen 0) hne).mono ?_
    rintro e u' w'' ⟨rfl, rfl, w2, hb, rfl⟩
    have HP3 := ((((unhide HP).step hb).set 0 (.int .i64 c) (by simp)).other (a := ⟨w.heap.size + 1, 0, none⟩) n1 (.int .i64 k)).cell (i := 0) rfl
    have HQ3 := ((((unhide HQ).step hb).other (a := ⟨w.heap.size, 0, none⟩) n2 (.int .i64 c)).set 0 (.int .i64 k) (by simp)).cell (i := 0) rfl
    refine ⟨.tuple #[.int .i64 c, .int .i64 k], by simp [results, Try.results7, go_sem, HP3, HQ3], rfl, ?_⟩
    exact ((Below.step (unhide HW) hb).setCell (p := ⟨w.heap.size, 0, none⟩) (Nat.le_refl _) _).setCell (p := ⟨w.heap.size + 1, 0, none⟩) l2 _

end Go.Proofs.Ytnfdokcpjcnknaa

/- Laid together out of: RdF. -/
import Derived.Test.YtkjikjeecjendaaPd
import Derived.Test.YtkjikjeecjendaaPb

/- Radios: the specification's l9Has, RadiosOk. Written by wip/mkrd1.py. -/
namespace Go.Proofs.Ytkjikjeecjendaa
open Go.RowKit

set_option maxHeartbeats 1600000 in
theorem l9Has_any (v : Value) (L : List Int) (x : Int) (w : World) (h : IntsIn w v L) :
    Calls Try.prog 73 #[v, .int .i64 x] w fun e w' => e = .returned (.bool (L.contains x)) ∧ w' = w := by
  obtain ⟨ao, cap, rfl, hl, hm, hc⟩ := h
  unfold maxLen at hm
  have HC := hide hc
  clear hc
  go_enter Try.func73, Try.ntmps73
  go_wp2
  go_loopg [5] L.length (fun g i wr => wr = w ∧ ∃ k : Nat, k ≤ L.length ∧ g = L.length - k ∧ i = .int .i64 k ∧ Hid (∀ r, r < k → L.getD r 0 ≠ x))
  case atStart => exact ⟨rfl, 0, Nat.zero_le _, rfl, rfl, fun r hr => by omega⟩
  case round =>
    obtain ⟨rfl, k, hk, rfl, rfl, HN⟩ := hrel
    by_cases hkn : k < L.length
    · obtain ⟨b, o, rfl, hcell⟩ := unhide HC k hkn
      have hki : (k : Int) < L.length := by omega
      by_cases hx : L.getD k 0 = x
      · have HT : Hid (L.contains x = true) := by
          show _ = _
          rw [List.contains_iff_mem, ← hx, getD_lt hkn]
          exact List.getElem_mem _
        rw [hx] at hcell
        clear HN
        go_wp2
        go_ret
        exact ⟨ret_bool (unhide HT).symm, rfl⟩
      · have HN' : Hid (∀ r, r < k + 1 → L.getD r 0 ≠ x) := fun r hr => by
          by_cases e : r = k
          · rw [e]; exact hx
          · exact unhide HN r (by omega)
        clear HN
        generalize L.getD k 0 = y at *
        have d1 : (y == x) = false := by simpa using hx
        go_wp2
        go_roundg (L.length - (k + 1))
        case measure => omega
        case rel => exact ⟨rfl, k + 1, by omega, rfl, by go_num, HN'⟩
    · have HF : Hid (L.contains x = false) := by
        show _ = _
        rw [Bool.eq_false_iff]
        intro hc
        rw [List.contains_iff_mem] at hc
        obtain ⟨i, hi, e⟩ := List.mem_iff_getElem.1 hc
        exact unhide HN i (by omega) (by rw [getD_lt hi]; exact e)
      have hki : ¬ (k : Int) < L.length := by omega
      clear HN
      go_wp2
      go_ret
      refine ⟨ret_bool ?_, rfl⟩
      have h := unhide HF
      rw [Bool.eq_false_iff, ne_eq, List.contains_iff_mem] at h
      first | exact (unhide HF).symm | simp [h]

def EOne (g : Nat) (A : List Value) : Nat → Option (Nat × List Value)
  | 0 => some (g, A)
  | _ => none
theorem bk_at {w W : World} {g : Nat} {A : List Value} (hb : Below w.heap.size w W) (hg : w.heap.size ≤ g) (ho : OwnV W g A) : Bk w W (EOne g A) :=
  ⟨hb, fun k g' vs e => by
    match k, e with
    | 0, e => simp [EOne] at e; obtain ⟨rfl, rfl⟩ := e; exact ⟨hg, ho⟩, fun k k' g1 v1 g2 v2 e1 e2 hne => by
    match k, e1, k', e2, hne with
    | 0, _, 0, _, hne => exact absurd rfl hne⟩

def EQa (_LR : List Rad) (wr : World) (_b _o _cap m nc : Nat) (na : Option Addr) (id sl : Int) (_i _j : Nat) (_pv : Int) (_S : Bool) (_w : World) (_L : Nat → Bool) (_us : Nat → Value) : Nat → Option (Nat × List Value)
  | 0 => some (wr.heap.size, [.int .i64 id, .int .i64 sl, .slice na m nc])
  | _ => none
def FQa (_LR : List Rad) (wr : World) (_b _o _cap _m _nc : Nat) (_na : Option Addr) (id _sl : Int) (_i _j : Nat) (_pv : Int) (_S : Bool) : FL := [(0, 21, .pointer (some ⟨wr.heap.size, 0, none⟩)), (1, 22, .int .i64 id), (2, 23, .bool false), (3, 24, .bool true), (4, 25, .bool true), (5, 26, undef), (6, 27, undef), (7, 28, undef), (8, 29, undef), (9, 30, undef), (10, 31, undef), (11, 32, undef), (12, 33, undef), (13, 34, undef), (14, 35, undef), (15, 36, undef), (16, 37, undef), (17, 38, undef), (18, 39, .bool true), (19, 40, .bool true), (20, 41, undef), (21, 42, undef), (22, 43, undef), (23, 44, undef), (24, 45, .bool true)]
def RQa (LR : List Rad) (wr : World) (b o cap m nc : Nat) (na : Option Addr) (id sl : Int) (i j : Nat) (pv : Int) (S : Bool) (w : World) (L : Nat → Bool) (us : Nat → Value) (W : World) : Prop :=
  Facts L us (FQa LR wr b o cap m nc na id sl i j pv S) ∧ Bk w W (EQa LR wr b o cap m nc na id sl i j pv S w L us)
def XQa (_LR : List Rad) (wr : World) (_b _o _cap m nc : Nat) (na : Option Addr) (id sl : Int) (_i _j : Nat) (_pv : Int) (_S : Bool) (_w : World) : Nat → Option (Nat × List Value)
  | 0 => some (wr.heap.size, [.int .i64 id, .int .i64 sl, .slice na m nc])
  | _ => none
def EQb (_LR : List Rad) (wr : World) (_b _o _cap m nc : Nat) (na : Option Addr) (id sl : Int) (_i _j : Nat) (_pv : Int) (_S : Bool) (_w : World) (_L : Nat → Bool) (_us : Nat → Value) : Nat → Option (Nat × List Value)
  | 0 => some (wr.heap.size, [.int .i64 id, .int .i64 sl, .slice na m nc])
  | _ => none
def FQb (_LR : List Rad) (wr : World) (_b _o _cap _m _nc : Nat) (_na : Option Addr) (id sl : Int) (i _j : Nat) (_pv : Int) (S : Bool) : FL := [(0, 21, .pointer (some ⟨wr.heap.size, 0, none⟩)), (1, 22, .int .i64 id), (2, 23, .bool true), (3, 24, .bool false), (4, 25, .bool false), (5, 26, .int .i64 (i : Int)), (6, 27, .bool false), (7, 28, .bool false), (8, 29, undef), (9, 30, undef), (10, 31, undef), (11, 32, undef), (12, 33, undef), (13, 34, undef), (14, 35, undef), (15, 36, undef), (16, 37, undef), (17, 38, .bool false), (18, 39, .bool false), (19, 40, .bool false), (20, 41, .pointer (some ⟨wr.heap.size, 1, none⟩)), (21, 42, .int .i64 sl), (22, 43, .bool S), (23, 44, .bool (!S)), (24, 45, .bool (!S))]
def RQb (LR : List Rad) (wr : World) (b o cap m nc : Nat) (na : Option Addr) (id sl : Int) (i j : Nat) (pv : Int) (S : Bool) (w : World) (L : Nat → Bool) (us : Nat → Value) (W : World) : Prop :=
  Facts L us (FQb LR wr b o cap m nc na id sl i j pv S) ∧ Bk w W (EQb LR wr b o cap m nc na id sl i j pv S w L us)
def XQb (_LR : List Rad) (wr : World) (_b _o _cap m nc : Nat) (na : Option Addr) (id sl : Int) (_i _j : Nat) (_pv : Int) (_S : Bool) (_w : World) : Nat → Option (Nat × List Value)
  | 0 => some (wr.heap.size, [.int .i64 id, .int .i64 sl, .slice na m nc])
  | _ => none
def EQc (_LR : List Rad) (wr : World) (_b _o _cap m nc : Nat) (na : Option Addr) (id sl : Int) (_i _j : Nat) (_pv : Int) (_S : Bool) (_w : World) (_L : Nat → Bool) (_us : Nat → Value) : Nat → Option (Nat × List Value)
  | 0 => some (wr.heap.size, [.int .i64 id, .int .i64 sl, .slice na m nc])
  | _ => none
def FQc (LR : List Rad) (wr : World) (b o cap _m _nc : Nat) (_na : Option Addr) (id _sl : Int) (i j : Nat) (pv : Int) (_S : Bool) : FL := [(0, 21, .pointer (some ⟨wr.heap.size, 0, none⟩)), (1, 22, .int .i64 id), (2, 23, .bool true), (3, 24, .bool false), (4, 25, .bool false), (5, 26, .int .i64 (i : Int)), (6, 27, .bool true), (7, 28, .bool true), (8, 29, .slice (some ⟨b, o, none⟩) LR.length cap), (9, 30, .int .i64 (i : Int)), (10, 31, .int .i64 (j : Int)), (11, 32, .pointer (some ⟨b, o + j * 3, none⟩)), (12, 33, .pointer (some ⟨b, o + j * 3, none⟩)), (13, 34, .int .i64 pv), (14, 35, .pointer (some ⟨wr.heap.size, 0, none⟩)), (15, 36, .int .i64 id), (16, 37, .bool true), (17, 38, .bool true), (18, 39, .bool true), (19, 40, .bool true), (20, 41, undef), (21, 42, undef), (22, 43, undef), (23, 44, undef), (24, 45, .bool true)]
def RQc (LR : List Rad) (wr : World) (b o cap m nc : Nat) (na : Option Addr) (id sl : Int) (i j : Nat) (pv : Int) (S : Bool) (w : World) (L : Nat → Bool) (us : Nat → Value) (W : World) : Prop :=
  Facts L us (FQc LR wr b o cap m nc na id sl i j pv S) ∧ Bk w W (EQc LR wr b o cap m nc na id sl i j pv S w L us)
def XQc (_LR : List Rad) (wr : World) (_b _o _cap m nc : Nat) (na : Option Addr) (id sl : Int) (_i _j : Nat) (_pv : Int) (_S : Bool) (_w : World) : Nat → Option (Nat × List Value)
  | 0 => some (wr.heap.size, [.int .i64 id, .int .i64 sl, .slice na m nc])
  | _ => none
def EQd (_LR : List Rad) (wr : World) (_b _o _cap m nc : Nat) (na : Option Addr) (id sl : Int) (_i _j : Nat) (_pv : Int) (_S : Bool) (_w : World) (_L : Nat → Bool) (_us : Nat → Value) : Nat → Option (Nat × List Value)
  | 0 => some (wr.heap.size, [.int .i64 id, .int .i64 sl, .slice na m nc])
  | _ => none
def FQd (LR : List Rad) (wr : World) (b o cap _m _nc : Nat) (_na : Option Addr) (id sl : Int) (i j : Nat) (pv : Int) (S : Bool) : FL := [(0, 21, .pointer (some ⟨wr.heap.size, 0, none⟩)), (1, 22, .int .i64 id), (2, 23, .bool true), (3, 24, .bool false), (4, 25, .bool false), (5, 26, .int .i64 (i : Int)), (6, 27, .bool true), (7, 28, .bool true), (8, 29, .slice (some ⟨b, o, none⟩) LR.length cap), (9, 30, .int .i64 (i : Int)), (10, 31, .int .i64 (j : Int)), (11, 32, .pointer (some ⟨b, o + j * 3, none⟩)), (12, 33, .pointer (some ⟨b, o + j * 3, none⟩)), (13, 34, .int .i64 pv), (14, 35, .pointer (some ⟨wr.heap.size, 0, none⟩)), (15, 36, .int .i64 id), (16, 37, .bool false), (17, 38, .bool false), (18, 39, .bool false), (19, 40, .bool false), (20, 41, .pointer (some ⟨wr.heap.size, 1, none⟩)), (21, 42, .int .i64 sl), (22, 43, .bool S), (23, 44, .bool (!S)), (24, 45, .bool (!S))]
def RQd (LR : List Rad) (wr : World) (b o cap m nc : Nat) (na : Option Addr) (id sl : Int) (i j : Nat) (pv : Int) (S : Bool) (w : World) (L : Nat → Bool) (us : Nat → Value) (W : World) : Prop :=
  Facts L us (FQd LR wr b o cap m nc na id sl i j pv S) ∧ Bk w W (EQd LR wr b o cap m nc na id sl i j pv S w L us)
def XQd (_LR : List Rad) (wr : World) (_b _o _cap m nc : Nat) (na : Option Addr) (id sl : Int) (_i _j : Nat) (_pv : Int) (_S : Bool) (_w : World) : Nat → Option (Nat × List Value)
  | 0 => some (wr.heap.size, [.int .i64 id, .int .i64 sl, .slice na m nc])
  | _ => none

set_option maxRecDepth 10000 in
set_option maxHeartbeats 3200000 in
theorem specRadiosOk_any (v : Value) (LR : List Rad) (w : World) (h : RadsIn w v LR) :
    Calls Try.prog 37 #[v] w fun e w' => e = .returned (.bool (radsB LR)) ∧ Below w.heap.size w w' := by
  obtain ⟨ao, cap, rfl, hl, hm, hc⟩ := h
  unfold maxLen at hm
  have HC := hide hc
  clear hc
  unfold radsB
  cases hn : inB LR.length 1 24 with
  | false =>
    have HF : Hid (pB (RadsOk LR) = false) := pB_false fun hh => by
      rw [inB_mk (by have := hh.1; omega) (by have := hh.2.1; omega)] at hn
      cases hn
    go_enter Try.func37, Try.ntmps37
    go_wp2_with (go_at_call 54; refine (l1In_any _ _ _ _).mono ?_; rintro e w' ⟨rfl, h9⟩; have h8 := h9.symm; subst h8; clear h9)
    go_ret
    exact ⟨ret_bool (unhide HF).symm, Below.refl _ _⟩
  | true =>
  have hn' := inB_true hn
  go_enter Try.func37, Try.ntmps37
  go_wp2_with (go_at_call 54; refine (l1In_any _ _ _ _).mono ?_; rintro e w' ⟨rfl, h9⟩; have h8 := h9.symm; subst h8; clear h9)
  go_loopg [3] LR.length (fun g iv wr => Below w.heap.size w wr ∧ ∃ i : Nat, i ≤ LR.length ∧ g = LR.length - i ∧ iv = .int .i64 i ∧ Hid (∀ r, r < i → IdOk LR r ∧ SlOk LR r ∧ HeOk (rHe LR r) r LR.length ∧ ∀ q, q < (rHe LR r).length → MuAt LR r q))
  case atStart => exact ⟨Below.refl _ _, 0, Nat.zero_le _, rfl, rfl, fun r hr => by omega⟩
  case round =>
    obtain ⟨hW, i, hi, rfl, rfl, HD⟩ := hrel
    by_cases hin : i < LR.length
    case neg =>
      have HT : Hid (pB (RadsOk LR) = true) := pB_true ⟨by omega, by omega, fun r hr => ⟨(HD.out r (by omega)).1, (HD.out r (by omega)).2.1, (HD.out r (by omega)).2.2.1⟩, fun r hr q hq => (HD.out r (by omega)).2.2.2 q hq⟩
      have HW := hide hW
      clear HD hW
      go_wp2
      go_ret
      exact ⟨ret_bool (unhide HT).symm, unhide HW⟩
    obtain ⟨b, o, na, nc, id, sl, H, m, rfl, hc0, hc1, hc2, hr, EX, EM, hm0⟩ := radAt (unhide HC) hin
    have g0 := wcell3 hc0 hW
    have g1 := wcell3 hc1 hW
    have g2 := wcell3 hc2 hW
    have hii : (i : Int) < LR.length := by omega
    have E1 : Hid (rId LR i = id) := by show (LR.getD i default).1 = id; rw [unhide EX]
    have E2 : Hid (rSl LR i = sl) := by show (LR.getD i default).2.1 = sl; rw [unhide EX]
    have E3 : Hid (rHe LR i = H) := by show (LR.getD i default).2.2 = H; rw [unhide EX]
    have hA := Below.alloc1 wr (.cells #[.int .i64 id, .int .i64 sl, .slice na m nc] 45)
    have hgb : w.heap.size ≤ wr.heap.size := hW.size
    have HBK := hide (bk_at (Below.step hW hA) hgb (ownV_alloc wr #[.int .i64 id, .int .i64 sl, .slice na m nc] 45))
    have HR := hide hr
    generalize hV : wr.alloc (.cells #[.int .i64 id, .int .i64 sl, .slice na m nc] 45) = V at HBK
    clear hc0 hc1 hc2 hr hW hA
    obtain ⟨S, hS⟩ : ∃ S, inB sl 0 19 = S := ⟨_, rfl⟩
    have HLs : Hid (∀ W, Calls Try.prog 54 #[.int .i64 sl, .int .i64 0, .int .i64 19] W fun e w' => e = .returned (.bool S) ∧ Below W.heap.size W w') := fun W => by rw [← hS]; exact same_below (l1In_any sl 0 19 W)
    obtain ⟨j, ej⟩ : ∃ j : Nat, j = i - 1 := ⟨_, rfl⟩
    obtain ⟨pv, epv⟩ : ∃ pv : Int, pv = rId LR j := ⟨_, rfl⟩
    have HSl : Hid (S = false → ¬ SlOk LR i) := fun e hh => by
      unfold SlOk at hh
      rw [unhide E2] at hh
      rw [e] at hS
      rw [inB_mk hh.1 hh.2] at hS
      cases hS
    have HSl1 : Hid (S = true → SlOk LR i) := fun e => by
      rw [e] at hS
      unfold SlOk
      rw [unhide E2]
      exact inB_true hS
    clear hS
    cases ha : inB id 1 999999999
    · have HF : Hid (pB (RadsOk LR) = false) := pB_false fun hh => by
        obtain ⟨k1, k2, -⟩ := (hh.2.2.1 i hin).1
        rw [unhide E1] at k1 k2
        rw [inB_mk k1 k2] at ha
        cases ha
      have HLa : Hid (∀ W, Calls Try.prog 54 #[.int .i64 id, .int .i64 1, .int .i64 999999999] W fun e w' => e = .returned (.bool false) ∧ Below W.heap.size W w') := fun W => by rw [← ha]; exact same_below (l1In_any id 1 999999999 W)
      go_wp2_with fail
      have HB0 : Hid (∀ us, Bk w _ (EQa LR wr b o cap m nc na id sl i j pv S w (fun _ => false) us)) := hide (fun us => ((unhide HBK)).congr (fun k => by rcases k with _ | k <;> simp [EQa, EOne]))
      refine wp_region_slots [21, 22, 23, 24, 25, 26, 27, 28, 29, 30, 31, 32, 33, 34, 35, 36, 37, 38, 39, 40, 41, 42, 43, 44, 45] (RQa LR wr b o cap m nc na id sl i j pv S w) (by kernel_rfl) (by kernel_rfl) (by decide) (by kernel_rfl) ?_ ?_ ?_
      · intro us
        exact ⟨facts_start us _, (unhide HB0 us).drew⟩
      · clear HB0
        refine StepsR.cons 1 rfl ?_ ?_
        · intro L us W hi hdep hR Kx hNx
          have hF := hide hR.1
          have hB := hR.2
          clear hR
          clear hdep
          have HB := hide hB
          clear hB
          simp only [fillA, Act.put, List.setIfInBounds_toArray, List.set_cons_zero, List.set_cons_succ] at hNx ⊢
          rw [if_pos (by rfl)]
          go_simp
          first | refine hNx _ _ ?_ | skip
          exact ⟨(unhide hF).step rfl rfl, (unhide HB).congr (fun k => by rcases k with _ | k <;> simp [EQa])⟩
        refine StepsR.cons 2 rfl ?_ ?_
        · intro L us W hi hdep hR Kx hNx
          have hF := hide hR.1
          have hB := hR.2
          clear hR
          have d0 : L 0 = true := hdep 0 (by kernel_rfl)
          clear hdep
          have hE : EQa LR wr b o cap m nc na id sl i j pv S w L us 0 = some (wr.heap.size, [.int .i64 id, .int .i64 sl, .slice na m nc]) := by simp [EQa]
          have e21 : us 21 = .pointer (some ⟨wr.heap.size, 0, none⟩) := (unhide hF).get (k := 0) rfl d0
          have hO := hB.ownV hE
          have c0 := hO.cell (i := 0) rfl
          have c1 := hO.cell (i := 1) rfl
          have c2 := hO.cell (i := 2) rfl
          clear hO
          have HB := hide hB
          clear hB
          have HE := hide hE
          clear hE
          simp only [fillA, Act.put, List.setIfInBounds_toArray, List.set_cons_zero, List.set_cons_succ] at hNx ⊢
          simp only [e21] at hNx ⊢
          clear e21
          rw [if_pos (by rfl)]
          go_simp
          first | refine hNx _ _ ?_ | skip
          exact ⟨(unhide hF).step rfl rfl, (unhide HB).congr (fun k => by rcases k with _ | k <;> simp [EQa])⟩
        refine StepsR.cons 3 rfl ?_ ?_
        · intro L us W hi hdep hR Kx hNx
          have hF := hide hR.1
          have hB := hR.2
          clear hR
          have d1 : L 1 = true := hdep 1 (by kernel_rfl)
          clear hdep
          have e22 : us 22 = .int .i64 id := (unhide hF).get (k := 1) rfl d1
          have HB := hide hB
          clear hB
          simp only [fillA, Act.put, List.setIfInBounds_toArray, List.set_cons_zero, List.set_cons_succ] at hNx ⊢
          simp only [e22] at hNx ⊢
          clear e22
          rw [if_pos (by rfl)]
          have HC := hide (unhide HLa W)
          go_simp
          refine (unhide HC).mono ?_
          rintro e W' ⟨rfl, hb⟩
          replace HB := hide ((unhide HB).step hb)
          clear hb HC
          go_wp2_with fail
          first | refine hNx _ _ ?_ | skip
          exact ⟨(unhide hF).step rfl rfl, (unhide HB).congr (fun k => by rcases k with _ | k <;> simp [EQa])⟩
        refine StepsR.cons 4 rfl ?_ ?_
        · intro L us W hi hdep hR Kx hNx
          have hF := hide hR.1
          have hB := hR.2
          clear hR
          have d2 : L 2 = true := hdep 2 (by kernel_rfl)
          clear hdep
          have e23 : us 23 = .bool false := (unhide hF).get (k := 2) rfl d2
          have HB := hide hB
          clear hB
          simp only [fillA, Act.put, List.setIfInBounds_toArray, List.set_cons_zero, List.set_cons_succ] at hNx ⊢
          simp only [e23] at hNx ⊢
          clear e23
          rw [if_pos (by rfl)]
          go_simp
          first | refine hNx _ _ ?_ | skip
          exact ⟨(unhide hF).step rfl rfl, (unhide HB).congr (fun k => by rcases k with _ | k <;> simp [EQa])⟩
        refine StepsR.cons 5 rfl ?_ ?_
        · intro L us W hi hdep hR Kx hNx
          have hF := hide hR.1
          have hB := hR.2
          clear hR
          have d3 : L 3 = true := hdep 3 (by kernel_rfl)
          clear hdep
          have e24 : us 24 = .bool true := (unhide hF).get (k := 3) rfl d3
          have HB := hide hB
          clear hB
          simp only [fillA, Act.put, List.setIfInBounds_toArray, List.set_cons_zero, List.set_cons_succ] at hNx ⊢
          simp only [e24] at hNx ⊢
          clear e24
          rw [if_pos (by rfl)]
          go_simp
          first | refine hNx _ _ ?_ | skip
          exact ⟨(unhide hF).step rfl rfl, (unhide HB).congr (fun k => by rcases k with _ | k <;> simp [EQa])⟩
        refine StepsR.cons 6 rfl ?_ ?_
        · intro L us W hi hdep hR Kx hNx
          have hF := hide hR.1
          have hB := hR.2
          clear hR
          have d4 : L 4 = true := hdep 4 (by kernel_rfl)
          clear hdep
          have e25 : us 25 = .bool true := (unhide hF).get (k := 4) rfl d4
          have HB := hide hB
          clear hB
          simp only [fillA, Act.put, List.setIfInBounds_toArray, List.set_cons_zero, List.set_cons_succ] at hNx ⊢
          simp only [e25] at hNx ⊢
          clear e25
          refine ifn (by rfl) ?_
          first | refine hNx _ _ ?_ | skip
          exact ⟨(unhide hF).step rfl rfl, (unhide HB).congr (fun k => by rcases k with _ | k <;> simp [EQa])⟩
        refine StepsR.cons 7 rfl ?_ ?_
        · intro L us W hi hdep hR Kx hNx
          have hF := hide hR.1
          have hB := hR.2
          clear hR
          have d4 : L 4 = true := hdep 4 (by kernel_rfl)
          clear hdep
          have e25 : us 25 = .bool true := (unhide hF).get (k := 4) rfl d4
          have HB := hide hB
          clear hB
          simp only [fillA, Act.put, List.setIfInBounds_toArray, List.set_cons_zero, List.set_cons_succ] at hNx ⊢
          simp only [e25] at hNx ⊢
          clear e25
          refine ifn (by rfl) ?_
          first | refine hNx _ _ ?_ | skip
          exact ⟨(unhide hF).step rfl rfl, (unhide HB).congr (fun k => by rcases k with _ | k <;> simp [EQa])⟩
        refine StepsR.cons 8 rfl ?_ ?_
        · intro L us W hi hdep hR Kx hNx
          have hF := hide hR.1
          have hB := hR.2
          clear hR
          have d4 : L 4 = true := hdep 4 (by kernel_rfl)
          clear hdep
          have e25 : us 25 = .bool true := (unhide hF).get (k := 4) rfl d4
          have HB := hide hB
          clear hB
          simp only [fillA, Act.put, List.setIfInBounds_toArray, List.set_cons_zero, List.set_cons_succ] at hNx ⊢
          simp only [e25] at hNx ⊢
          clear e25
          refine ifn (by rfl) ?_
          first | refine hNx _ _ ?_ | skip
          exact ⟨(unhide hF).step rfl rfl, (unhide HB).congr (fun k => by rcases k with _ | k <;> simp [EQa])⟩
        refine StepsR.cons 9 rfl ?_ ?_
        · intro L us W hi hdep hR Kx hNx
          have hF := hide hR.1
          have hB := hR.2
          clear hR
          have d7 : L 7 = true := hdep 7 (by kernel_rfl)
          clear hdep
          have e28 : us 28 = undef := (unhide hF).get (k := 7) rfl d7
          have HB := hide hB
          clear hB
          simp only [fillA, Act.put, List.setIfInBounds_toArray, List.set_cons_zero, List.set_cons_succ] at hNx ⊢
          simp only [e28] at hNx ⊢
          clear e28
          refine ifn (by rfl) ?_
          first | refine hNx _ _ ?_ | skip
          exact ⟨(unhide hF).step rfl rfl, (unhide HB).congr (fun k => by rcases k with _ | k <;> simp [EQa])⟩
        refine StepsR.cons 10 rfl ?_ ?_
        · intro L us W hi hdep hR Kx hNx
          have hF := hide hR.1
          have hB := hR.2
          clear hR
          have d7 : L 7 = true := hdep 7 (by kernel_rfl)
          clear hdep
          have e28 : us 28 = undef := (unhide hF).get (k := 7) rfl d7
          have HB := hide hB
          clear hB
          simp only [fillA, Act.put, List.setIfInBounds_toArray, List.set_cons_zero, List.set_cons_succ] at hNx ⊢
          simp only [e28] at hNx ⊢
          clear e28
          refine ifn (by rfl) ?_
          first | refine hNx _ _ ?_ | skip
          exact ⟨(unhide hF).step rfl rfl, (unhide HB).congr (fun k => by rcases k with _ | k <;> simp [EQa])⟩
        refine StepsR.cons 11 rfl ?_ ?_
        · intro L us W hi hdep hR Kx hNx
          have hF := hide hR.1
          have hB := hR.2
          clear hR
          have d7 : L 7 = true := hdep 7 (by kernel_rfl)
          clear hdep
          have e28 : us 28 = undef := (unhide hF).get (k := 7) rfl d7
          have HB := hide hB
          clear hB
          simp only [fillA, Act.put, List.setIfInBounds_toArray, List.set_cons_zero, List.set_cons_succ] at hNx ⊢
          simp only [e28] at hNx ⊢
          clear e28
          refine ifn (by rfl) ?_
          first | refine hNx _ _ ?_ | skip
          exact ⟨(unhide hF).step rfl rfl, (unhide HB).congr (fun k => by rcases k with _ | k <;> simp [EQa])⟩
        refine StepsR.cons 12 rfl ?_ ?_
        · intro L us W hi hdep hR Kx hNx
          have hF := hide hR.1
          have hB := hR.2
          clear hR
          have d7 : L 7 = true := hdep 7 (by kernel_rfl)
          clear hdep
          have e28 : us 28 = undef := (unhide hF).get (k := 7) rfl d7
          have HB := hide hB
          clear hB
          simp only [fillA, Act.put, List.setIfInBounds_toArray, List.set_cons_zero, List.set_cons_succ] at hNx ⊢
          simp only [e28] at hNx ⊢
          clear e28
          refine ifn (by rfl) ?_
          first | refine hNx _ _ ?_ | skip
          exact ⟨(unhide hF).step rfl rfl, (unhide HB).congr (fun k => by rcases k with _ | k <;> simp [EQa])⟩
        refine StepsR.cons 13 rfl ?_ ?_
        · intro L us W hi hdep hR Kx hNx
          have hF := hide hR.1
          have hB := hR.2
          clear hR
          have d7 : L 7 = true := hdep 7 (by kernel_rfl)
          clear hdep
          have e28 : us 28 = undef := (unhide hF).get (k := 7) rfl d7
          have HB := hide hB
          clear hB
          simp only [fillA, Act.put, List.setIfInBounds_toArray, List.set_cons_zero, List.set_cons_succ] at hNx ⊢
          simp only [e28] at hNx ⊢
          clear e28
          refine ifn (by rfl) ?_
          first | refine hNx _ _ ?_ | skip
          exact ⟨(unhide hF).step rfl rfl, (unhide HB).congr (fun k => by rcases k with _ | k <;> simp [EQa])⟩
        refine StepsR.cons 14 rfl ?_ ?_
        · intro L us W hi hdep hR Kx hNx
          have hF := hide hR.1
          have hB := hR.2
          clear hR
          have d7 : L 7 = true := hdep 7 (by kernel_rfl)
          clear hdep
          have e28 : us 28 = undef := (unhide hF).get (k := 7) rfl d7
          have HB := hide hB
          clear hB
          simp only [fillA, Act.put, List.setIfInBounds_toArray, List.set_cons_zero, List.set_cons_succ] at hNx ⊢
          simp only [e28] at hNx ⊢
          clear e28
          refine ifn (by rfl) ?_
          first | refine hNx _ _ ?_ | skip
          exact ⟨(unhide hF).step rfl rfl, (unhide HB).congr (fun k => by rcases k with _ | k <;> simp [EQa])⟩
        refine StepsR.cons 15 rfl ?_ ?_
        · intro L us W hi hdep hR Kx hNx
          have hF := hide hR.1
          have hB := hR.2
          clear hR
          have d7 : L 7 = true := hdep 7 (by kernel_rfl)
          clear hdep
          have e28 : us 28 = undef := (unhide hF).get (k := 7) rfl d7
          have HB := hide hB
          clear hB
          simp only [fillA, Act.put, List.setIfInBounds_toArray, List.set_cons_zero, List.set_cons_succ] at hNx ⊢
          simp only [e28] at hNx ⊢
          clear e28
          refine ifn (by rfl) ?_
          first | refine hNx _ _ ?_ | skip
          exact ⟨(unhide hF).step rfl rfl, (unhide HB).congr (fun k => by rcases k with _ | k <;> simp [EQa])⟩
        refine StepsR.cons 16 rfl ?_ ?_
        · intro L us W hi hdep hR Kx hNx
          have hF := hide hR.1
          have hB := hR.2
          clear hR
          have d7 : L 7 = true := hdep 7 (by kernel_rfl)
          clear hdep
          have e28 : us 28 = undef := (unhide hF).get (k := 7) rfl d7
          have HB := hide hB
          clear hB
          simp only [fillA, Act.put, List.setIfInBounds_toArray, List.set_cons_zero, List.set_cons_succ] at hNx ⊢
          simp only [e28] at hNx ⊢
          clear e28
          refine ifn (by rfl) ?_
          first | refine hNx _ _ ?_ | skip
          exact ⟨(unhide hF).step rfl rfl, (unhide HB).congr (fun k => by rcases k with _ | k <;> simp [EQa])⟩
        refine StepsR.cons 17 rfl ?_ ?_
        · intro L us W hi hdep hR Kx hNx
          have hF := hide hR.1
          have hB := hR.2
          clear hR
          have d7 : L 7 = true := hdep 7 (by kernel_rfl)
          clear hdep
          have e28 : us 28 = undef := (unhide hF).get (k := 7) rfl d7
          have HB := hide hB
          clear hB
          simp only [fillA, Act.put, List.setIfInBounds_toArray, List.set_cons_zero, List.set_cons_succ] at hNx ⊢
          simp only [e28] at hNx ⊢
          clear e28
          refine ifn (by rfl) ?_
          first | refine hNx _ _ ?_ | skip
          exact ⟨(unhide hF).step rfl rfl, (unhide HB).congr (fun k => by rcases k with _ | k <;> simp [EQa])⟩
        refine StepsR.cons 18 rfl ?_ ?_
        · intro L us W hi hdep hR Kx hNx
          have hF := hide hR.1
          have hB := hR.2
          clear hR
          have d4 : L 4 = true := hdep 4 (by kernel_rfl)
          clear hdep
          have e25 : us 25 = .bool true := (unhide hF).get (k := 4) rfl d4
          have HB := hide hB
          clear hB
          simp only [fillA, Act.put, List.setIfInBounds_toArray, List.set_cons_zero, List.set_cons_succ] at hNx ⊢
          simp only [e25] at hNx ⊢
          clear e25
          refine ifn (by rfl) ?_
          first | refine hNx _ _ ?_ | skip
          exact ⟨(unhide hF).step rfl rfl, (unhide HB).congr (fun k => by rcases k with _ | k <;> simp [EQa])⟩
        refine StepsR.cons 19 rfl ?_ ?_
        · intro L us W hi hdep hR Kx hNx
          have hF := hide hR.1
          have hB := hR.2
          clear hR
          have d4 : L 4 = true := hdep 4 (by kernel_rfl)
          have d17 : L 17 = true := hdep 17 (by kernel_rfl)
          clear hdep
          have e25 : us 25 = .bool true := (unhide hF).get (k := 4) rfl d4
          have e38 : us 38 = undef := (unhide hF).get (k := 17) rfl d17
          have HB := hide hB
          clear hB
          simp only [fillA, Act.put, List.setIfInBounds_toArray, List.set_cons_zero, List.set_cons_succ] at hNx ⊢
          simp only [e25, e38] at hNx ⊢
          clear e25 e38
          rw [if_pos (by rfl)]
          go_simp
          first | refine hNx _ _ ?_ | skip
          exact ⟨(unhide hF).step rfl rfl, (unhide HB).congr (fun k => by rcases k with _ | k <;> simp [EQa])⟩
        refine StepsR.cons 20 rfl ?_ ?_
        · intro L us W hi hdep hR Kx hNx
          have hF := hide hR.1
          have hB := hR.2
          clear hR
          have d18 : L 18 = true := hdep 18 (by kernel_rfl)
          clear hdep
          have e39 : us 39 = .bool true := (unhide hF).get (k := 18) rfl d18
          have HB := hide hB
          clear hB
          simp only [fillA, Act.put, List.setIfInBounds_toArray, List.set_cons_zero, List.set_cons_succ] at hNx ⊢
          simp only [e39] at hNx ⊢
          clear e39
          rw [if_pos (by rfl)]
          go_simp
          first | refine hNx _ _ ?_ | skip
          exact ⟨(unhide hF).step rfl rfl, (unhide HB).congr (fun k => by rcases k with _ | k <;> simp [EQa])⟩
        refine StepsR.cons 21 rfl ?_ ?_
        · intro L us W hi hdep hR Kx hNx
          have hF := hide hR.1
          have hB := hR.2
          clear hR
          have d19 : L 19 = true := hdep 19 (by kernel_rfl)
          clear hdep
          have e40 : us 40 = .bool true := (unhide hF).get (k := 19) rfl d19
          have HB := hide hB
          clear hB
          simp only [fillA, Act.put, List.setIfInBounds_toArray, List.set_cons_zero, List.set_cons_succ] at hNx ⊢
          simp only [e40] at hNx ⊢
          clear e40
          refine ifn (by rfl) ?_
          first | refine hNx _ _ ?_ | skip
          exact ⟨(unhide hF).step rfl rfl, (unhide HB).congr (fun k => by rcases k with _ | k <;> simp [EQa])⟩
        refine StepsR.cons 22 rfl ?_ ?_
        · intro L us W hi hdep hR Kx hNx
          have hF := hide hR.1
          have hB := hR.2
          clear hR
          have d19 : L 19 = true := hdep 19 (by kernel_rfl)
          clear hdep
          have e40 : us 40 = .bool true := (unhide hF).get (k := 19) rfl d19
          have HB := hide hB
          clear hB
          simp only [fillA, Act.put, List.setIfInBounds_toArray, List.set_cons_zero, List.set_cons_succ] at hNx ⊢
          simp only [e40] at hNx ⊢
          clear e40
          refine ifn (by rfl) ?_
          first | refine hNx _ _ ?_ | skip
          exact ⟨(unhide hF).step rfl rfl, (unhide HB).congr (fun k => by rcases k with _ | k <;> simp [EQa])⟩
        refine StepsR.cons 23 rfl ?_ ?_
        · intro L us W hi hdep hR Kx hNx
          have hF := hide hR.1
          have hB := hR.2
          clear hR
          have d19 : L 19 = true := hdep 19 (by kernel_rfl)
          clear hdep
          have e40 : us 40 = .bool true := (unhide hF).get (k := 19) rfl d19
          have HB := hide hB
          clear hB
          simp only [fillA, Act.put, List.setIfInBounds_toArray, List.set_cons_zero, List.set_cons_succ] at hNx ⊢
          simp only [e40] at hNx ⊢
          clear e40
          refine ifn (by rfl) ?_
          first | refine hNx _ _ ?_ | skip
          exact ⟨(unhide hF).step rfl rfl, (unhide HB).congr (fun k => by rcases k with _ | k <;> simp [EQa])⟩
        refine StepsR.cons 24 rfl ?_ ?_
        · intro L us W hi hdep hR Kx hNx
          have hF := hide hR.1
          have hB := hR.2
          clear hR
          have d19 : L 19 = true := hdep 19 (by kernel_rfl)
          clear hdep
          have e40 : us 40 = .bool true := (unhide hF).get (k := 19) rfl d19
          have HB := hide hB
          clear hB
          simp only [fillA, Act.put, List.setIfInBounds_toArray, List.set_cons_zero, List.set_cons_succ] at hNx ⊢
          simp only [e40] at hNx ⊢
          clear e40
          refine ifn (by rfl) ?_
          first | refine hNx _ _ ?_ | skip
          exact ⟨(unhide hF).step rfl rfl, (unhide HB).congr (fun k => by rcases k with _ | k <;> simp [EQa])⟩
        refine StepsR.cons 25 rfl ?_ ?_
        · intro L us W hi hdep hR Kx hNx
          have hF := hide hR.1
          have hB := hR.2
          clear hR
          have d19 : L 19 = true := hdep 19 (by kernel_rfl)
          have d23 : L 23 = true := hdep 23 (by kernel_rfl)
          clear hdep
          have e40 : us 40 = .bool true := (unhide hF).get (k := 19) rfl d19
          have e44 : us 44 = undef := (unhide hF).get (k := 23) rfl d23
          have HB := hide hB
          clear hB
          simp only [fillA, Act.put, List.setIfInBounds_toArray, List.set_cons_zero, List.set_cons_succ] at hNx ⊢
          simp only [e40, e44] at hNx ⊢
          clear e40 e44
          rw [if_pos (by rfl)]
          go_simp
          first | refine hNx _ _ ?_ | skip
          exact ⟨(unhide hF).step rfl rfl, (unhide HB).congr (fun k => by rcases k with _ | k <;> simp [EQa])⟩
        exact StepsR.nil
      · intro L us W hL hR
        have hF := hide hR.1
        have hB := hR.2
        clear hR
        have hE0 : EQa LR wr b o cap m nc na id sl i j pv S w L us 0 = some (wr.heap.size, [.int .i64 id, .int .i64 sl, .slice na m nc]) := by simp [EQa]
        have hO0 := hB.ownV hE0
        clear hE0
        have HA : Hid (Bk w W (XQa LR wr b o cap m nc na id sl i j pv S w)) := hide (hB.congr (fun k => by rcases k with _ | k <;> simp [EQa, XQa]))
        have f0 : us 21 = .pointer (some ⟨wr.heap.size, 0, none⟩) := (unhide hF).get (k := 0) rfl (hL 0 (by decide))
        have f1 : us 22 = .int .i64 id := (unhide hF).get (k := 1) rfl (hL 1 (by decide))
        have f2 : us 23 = .bool false := (unhide hF).get (k := 2) rfl (hL 2 (by decide))
        have f3 : us 24 = .bool true := (unhide hF).get (k := 3) rfl (hL 3 (by decide))
        have f4 : us 25 = .bool true := (unhide hF).get (k := 4) rfl (hL 4 (by decide))
        have f5 : us 26 = undef := (unhide hF).get (k := 5) rfl (hL 5 (by decide))
        have f6 : us 27 = undef := (unhide hF).get (k := 6) rfl (hL 6 (by decide))
        have f7 : us 28 = undef := (unhide hF).get (k := 7) rfl (hL 7 (by decide))
        have f8 : us 29 = undef := (unhide hF).get (k := 8) rfl (hL 8 (by decide))
        have f9 : us 30 = undef := (unhide hF).get (k := 9) rfl (hL 9 (by decide))
        have f10 : us 31 = undef := (unhide hF).get (k := 10) rfl (hL 10 (by decide))
        have f11 : us 32 = undef := (unhide hF).get (k := 11) rfl (hL 11 (by decide))
        have f12 : us 33 = undef := (unhide hF).get (k := 12) rfl (hL 12 (by decide))
        have f13 : us 34 = undef := (unhide hF).get (k := 13) rfl (hL 13 (by decide))
        have f14 : us 35 = undef := (unhide hF).get (k := 14) rfl (hL 14 (by decide))
        have f15 : us 36 = undef := (unhide hF).get (k := 15) rfl (hL 15 (by decide))
        have f16 : us 37 = undef := (unhide hF).get (k := 16) rfl (hL 16 (by decide))
        have f17 : us 38 = undef := (unhide hF).get (k := 17) rfl (hL 17 (by decide))
        have f18 : us 39 = .bool true := (unhide hF).get (k := 18) rfl (hL 18 (by decide))
        have f19 : us 40 = .bool true := (unhide hF).get (k := 19) rfl (hL 19 (by decide))
        have f20 : us 41 = undef := (unhide hF).get (k := 20) rfl (hL 20 (by decide))
        have f21 : us 42 = undef := (unhide hF).get (k := 21) rfl (hL 21 (by decide))
        have f22 : us 43 = undef := (unhide hF).get (k := 22) rfl (hL 22 (by decide))
        have f23 : us 44 = undef := (unhide hF).get (k := 23) rfl (hL 23 (by decide))
        have f24 : us 45 = .bool true := (unhide hF).get (k := 24) rfl (hL 24 (by decide))
        have HW := hide hB.below
        clear hB hL
        simp only [fillA, Act.put, List.setIfInBounds_toArray, List.set_cons_zero, List.set_cons_succ]
        simp only [f0, f1, f2, f3, f4, f5, f6, f7, f8, f9, f10, f11, f12, f13, f14, f15, f16, f17, f18, f19, f20, f21, f22, f23, f24]
        clear hF f0 f1 f2 f3 f4 f5 f6 f7 f8 f9 f10 f11 f12 f13 f14 f15 f16 f17 f18 f19 f20 f21 f22 f23 f24
        clear us L
        clear hO0
        go_wp2
        go_ret
        exact ⟨ret_bool (unhide HF).symm, unhide HW⟩
    have HLa : Hid (∀ W, Calls Try.prog 54 #[.int .i64 id, .int .i64 1, .int .i64 999999999] W fun e w' => e = .returned (.bool true) ∧ Below W.heap.size W w') := fun W => by rw [← ha]; exact same_below (l1In_any id 1 999999999 W)
    rcases Nat.eq_zero_or_pos i with hi0 | hi0
    · have hgt : decide (0 < (i : Int)) = false := by rw [decide_eq_false_iff_not]; omega
      have hgn : decide (0 < i) = false := by rw [decide_eq_false_iff_not]; omega
      have HID : Hid (IdOk LR i) := by
        show IdOk LR i
        unfold IdOk
        rw [unhide E1]
        exact ⟨(inB_true ha).1, (inB_true ha).2, fun h => by omega⟩
      clear hi0
      go_wp2_with fail
      have HB0 : Hid (∀ us, Bk w _ (EQb LR wr b o cap m nc na id sl i j pv S w (fun _ => false) us)) := hide (fun us => ((unhide HBK)).congr (fun k => by rcases k with _ | k <;> simp [EQb, EOne]))
      refine wp_region_slots [21, 22, 23, 24, 25, 26, 27, 28, 29, 30, 31, 32, 33, 34, 35, 36, 37, 38, 39, 40, 41, 42, 43, 44, 45] (RQb LR wr b o cap m nc na id sl i j pv S w) (by kernel_rfl) (by kernel_rfl) (by decide) (by kernel_rfl) ?_ ?_ ?_
      · intro us
        exact ⟨facts_start us _, (unhide HB0 us).drew⟩
      · clear HB0
        refine StepsR.cons 1 rfl ?_ ?_
        · intro L us W hi hdep hR Kx hNx
          have hF := hide hR.1
          have hB := hR.2
          clear hR
          clear hdep
          have HB := hide hB
          clear hB
          simp only [fillA, Act.put, List.setIfInBounds_toArray, List.set_cons_zero, List.set_cons_succ] at hNx ⊢
          rw [if_pos (by rfl)]
          go_simp
          first | refine hNx _ _ ?_ | skip
          exact ⟨(unhide hF).step rfl rfl, (unhide HB).congr (fun k => by rcases k with _ | k <;> simp [EQb])⟩
        refine StepsR.cons 2 rfl ?_ ?_
        · intro L us W hi hdep hR Kx hNx
          have hF := hide hR.1
          have hB := hR.2
          clear hR
          have d0 : L 0 = true := hdep 0 (by kernel_rfl)
          clear hdep
          have hE : EQb LR wr b o cap m nc na id sl i j pv S w L us 0 = some (wr.heap.size, [.int .i64 id, .int .i64 sl, .slice na m nc]) := by simp [EQb]
          have e21 : us 21 = .pointer (some ⟨wr.heap.size, 0, none⟩) := (unhide hF).get (k := 0) rfl d0
          have hO := hB.ownV hE
          have c0 := hO.cell (i := 0) rfl
          have c1 := hO.cell (i := 1) rfl
          have c2 := hO.cell (i := 2) rfl
          clear hO
          have HB := hide hB
          clear hB
          have HE := hide hE
          clear hE
          simp only [fillA, Act.put, List.setIfInBounds_toArray, List.set_cons_zero, List.set_cons_succ] at hNx ⊢
          simp only [e21] at hNx ⊢
          clear e21
          rw [if_pos (by rfl)]
          go_simp
          first | refine hNx _ _ ?_ | skip
          exact ⟨(unhide hF).step rfl rfl, (unhide HB).congr (fun k => by rcases k with _ | k <;> simp [EQb])⟩
        refine StepsR.cons 3 rfl ?_ ?_
        · intro L us W hi hdep hR Kx hNx
          have hF := hide hR.1
          have hB := hR.2
          clear hR
          have d1 : L 1 = true := hdep 1 (by kernel_rfl)
          clear hdep
          have e22 : us 22 = .int .i64 id := (unhide hF).get (k := 1) rfl d1
          have HB := hide hB
          clear hB
          simp only [fillA, Act.put, List.setIfInBounds_toArray, List.set_cons_zero, List.set_cons_succ] at hNx ⊢
          simp only [e22] at hNx ⊢
          clear e22
          rw [if_pos (by rfl)]
          have HC := hide (unhide HLa W)
          go_simp
          refine (unhide HC).mono ?_
          rintro e W' ⟨rfl, hb⟩
          replace HB := hide ((unhide HB).step hb)
          clear hb HC
          go_wp2_with fail
          first | refine hNx _ _ ?_ | skip
          exact ⟨(unhide hF).step rfl rfl, (unhide HB).congr (fun k => by rcases k with _ | k <;> simp [EQb])⟩
        refine StepsR.cons 4 rfl ?_ ?_
        · intro L us W hi hdep hR Kx hNx
          have hF := hide hR.1
          have hB := hR.2
          clear hR
          have d2 : L 2 = true := hdep 2 (by kernel_rfl)
          clear hdep
          have e23 : us 23 = .bool true := (unhide hF).get (k := 2) rfl d2
          have HB := hide hB
          clear hB
          simp only [fillA, Act.put, List.setIfInBounds_toArray, List.set_cons_zero, List.set_cons_succ] at hNx ⊢
          simp only [e23] at hNx ⊢
          clear e23
          rw [if_pos (by rfl)]
          go_simp
          first | refine hNx _ _ ?_ | skip
          exact ⟨(unhide hF).step rfl rfl, (unhide HB).congr (fun k => by rcases k with _ | k <;> simp [EQb])⟩
        refine StepsR.cons 5 rfl ?_ ?_
        · intro L us W hi hdep hR Kx hNx
          have hF := hide hR.1
          have hB := hR.2
          clear hR
          have d3 : L 3 = true := hdep 3 (by kernel_rfl)
          clear hdep
          have e24 : us 24 = .bool false := (unhide hF).get (k := 3) rfl d3
          have HB := hide hB
          clear hB
          simp only [fillA, Act.put, List.setIfInBounds_toArray, List.set_cons_zero, List.set_cons_succ] at hNx ⊢
          simp only [e24] at hNx ⊢
          clear e24
          rw [if_pos (by rfl)]
          go_simp
          first | refine hNx _ _ ?_ | skip
          exact ⟨(unhide hF).step rfl rfl, (unhide HB).congr (fun k => by rcases k with _ | k <;> simp [EQb])⟩
        refine StepsR.cons 6 rfl ?_ ?_
        · intro L us W hi hdep hR Kx hNx
          have hF := hide hR.1
          have hB := hR.2
          clear hR
          have d4 : L 4 = true := hdep 4 (by kernel_rfl)
          clear hdep
          have e25 : us 25 = .bool false := (unhide hF).get (k := 4) rfl d4
          have HB := hide hB
          clear hB
          simp only [fillA, Act.put, List.setIfInBounds_toArray, List.set_cons_zero, List.set_cons_succ] at hNx ⊢
          simp only [e25] at hNx ⊢
          clear e25
          rw [if_pos (by rfl)]
          go_simp
          first | refine hNx _ _ ?_ | skip
          exact ⟨(unhide hF).step rfl rfl, (unhide HB).congr (fun k => by rcases k with _ | k <;> simp [EQb])⟩
        refine StepsR.cons 7 rfl ?_ ?_
        · intro L us W hi hdep hR Kx hNx
          have hF := hide hR.1
          have hB := hR.2
          clear hR
          have d4 : L 4 = true := hdep 4 (by kernel_rfl)
          have d5 : L 5 = true := hdep 5 (by kernel_rfl)
          clear hdep
          have e25 : us 25 = .bool false := (unhide hF).get (k := 4) rfl d4
          have e26 : us 26 = .int .i64 (i : Int) := (unhide hF).get (k := 5) rfl d5
          have HB := hide hB
          clear hB
          simp only [fillA, Act.put, List.setIfInBounds_toArray, List.set_cons_zero, List.set_cons_succ] at hNx ⊢
          simp only [e25, e26] at hNx ⊢
          clear e25 e26
          rw [if_pos (by rfl)]
          go_simp
          first | refine hNx _ _ ?_ | skip
          exact ⟨(unhide hF).step rfl rfl, (unhide HB).congr (fun k => by rcases k with _ | k <;> simp [EQb])⟩
        refine StepsR.cons 8 rfl ?_ ?_
        · intro L us W hi hdep hR Kx hNx
          have hF := hide hR.1
          have hB := hR.2
          clear hR
          have d4 : L 4 = true := hdep 4 (by kernel_rfl)
          have d6 : L 6 = true := hdep 6 (by kernel_rfl)
          clear hdep
          have e25 : us 25 = .bool false := (unhide hF).get (k := 4) rfl d4
          have e27 : us 27 = .bool false := (unhide hF).get (k := 6) rfl d6
          have HB := hide hB
          clear hB
          simp only [fillA, Act.put, List.setIfInBounds_toArray, List.set_cons_zero, List.set_cons_succ] at hNx ⊢
          simp only [e25, e27] at hNx ⊢
          clear e25 e27
          rw [if_pos (by rfl)]
          go_simp
          first | refine hNx _ _ ?_ | skip
          exact ⟨(unhide hF).step rfl rfl, (unhide HB).congr (fun k => by rcases k with _ | k <;> simp [EQb])⟩
        refine StepsR.cons 9 rfl ?_ ?_
        · intro L us W hi hdep hR Kx hNx
          have hF := hide hR.1
          have hB := hR.2
          clear hR
          have d7 : L 7 = true := hdep 7 (by kernel_rfl)
          clear hdep
          have e28 : us 28 = .bool false := (unhide hF).get (k := 7) rfl d7
          have HB := hide hB
          clear hB
          simp only [fillA, Act.put, List.setIfInBounds_toArray, List.set_cons_zero, List.set_cons_succ] at hNx ⊢
          simp only [e28] at hNx ⊢
          clear e28
          refine ifn (by rfl) ?_
          first | refine hNx _ _ ?_ | skip
          exact ⟨(unhide hF).step rfl rfl, (unhide HB).congr (fun k => by rcases k with _ | k <;> simp [EQb])⟩
        refine StepsR.cons 10 rfl ?_ ?_
        · intro L us W hi hdep hR Kx hNx
          have hF := hide hR.1
          have hB := hR.2
          clear hR
          have d7 : L 7 = true := hdep 7 (by kernel_rfl)
          clear hdep
          have e28 : us 28 = .bool false := (unhide hF).get (k := 7) rfl d7
          have HB := hide hB
          clear hB
          simp only [fillA, Act.put, List.setIfInBounds_toArray, List.set_cons_zero, List.set_cons_succ] at hNx ⊢
          simp only [e28] at hNx ⊢
          clear e28
          refine ifn (by rfl) ?_
          first | refine hNx _ _ ?_ | skip
          exact ⟨(unhide hF).step rfl rfl, (unhide HB).congr (fun k => by rcases k with _ | k <;> simp [EQb])⟩
        refine StepsR.cons 11 rfl ?_ ?_
        · intro L us W hi hdep hR Kx hNx
          have hF := hide hR.1
          have hB := hR.2
          clear hR
          have d7 : L 7 = true := hdep 7 (by kernel_rfl)
          clear hdep
          have e28 : us 28 = .bool false := (unhide hF).get (k := 7) rfl d7
          have HB := hide hB
          clear hB
          simp only [fillA, Act.put, List.setIfInBounds_toArray, List.set_cons_zero, List.set_cons_succ] at hNx ⊢
          simp only [e28] at hNx ⊢
          clear e28
          refine ifn (by rfl) ?_
          first | refine hNx _ _ ?_ | skip
          exact ⟨(unhide hF).step rfl rfl, (unhide HB).congr (fun k => by rcases k with _ | k <;> simp [EQb])⟩
        refine StepsR.cons 12 rfl ?_ ?_
        · intro L us W hi hdep hR Kx hNx
          have hF := hide hR.1
          have hB := hR.2
          clear hR
          have d7 : L 7 = true := hdep 7 (by kernel_rfl)
          clear hdep
          have e28 : us 28 = .bool false := (unhide hF).get (k := 7) rfl d7
          have HB := hide hB
          clear hB
          simp only [fillA, Act.put, List.setIfInBounds_toArray, List.set_cons_zero, List.set_cons_succ] at hNx ⊢
          simp only [e28] at hNx ⊢
          clear e28
          refine ifn (by rfl) ?_
          first | refine hNx _ _ ?_ | skip
          exact ⟨(unhide hF).step rfl rfl, (unhide HB).congr (fun k => by rcases k with _ | k <;> simp [EQb])⟩
        refine StepsR.cons 13 rfl ?_ ?_
        · intro L us W hi hdep hR Kx hNx
          have hF := hide hR.1
          have hB := hR.2
          clear hR
          have d7 : L 7 = true := hdep 7 (by kernel_rfl)
          clear hdep
          have e28 : us 28 = .bool false := (unhide hF).get (k := 7) rfl d7
          have HB := hide hB
          clear hB
          simp only [fillA, Act.put, List.setIfInBounds_toArray, List.set_cons_zero, List.set_cons_succ] at hNx ⊢
          simp only [e28] at hNx ⊢
          clear e28
          refine ifn (by rfl) ?_
          first | refine hNx _ _ ?_ | skip
          exact ⟨(unhide hF).step rfl rfl, (unhide HB).congr (fun k => by rcases k with _ | k <;> simp [EQb])⟩
        refine StepsR.cons 14 rfl ?_ ?_
        · intro L us W hi hdep hR Kx hNx
          have hF := hide hR.1
          have hB := hR.2
          clear hR
          have d7 : L 7 = true := hdep 7 (by kernel_rfl)
          clear hdep
          have e28 : us 28 = .bool false := (unhide hF).get (k := 7) rfl d7
          have HB := hide hB
          clear hB
          simp only [fillA, Act.put, List.setIfInBounds_toArray, List.set_cons_zero, List.set_cons_succ] at hNx ⊢
          simp only [e28] at hNx ⊢
          clear e28
          refine ifn (by rfl) ?_
          first | refine hNx _ _ ?_ | skip
          exact ⟨(unhide hF).step rfl rfl, (unhide HB).congr (fun k => by rcases k with _ | k <;> simp [EQb])⟩
        refine StepsR.cons 15 rfl ?_ ?_
        · intro L us W hi hdep hR Kx hNx
          have hF := hide hR.1
          have hB := hR.2
          clear hR
          have d7 : L 7 = true := hdep 7 (by kernel_rfl)
          clear hdep
          have e28 : us 28 = .bool false := (unhide hF).get (k := 7) rfl d7
          have HB := hide hB
          clear hB
          simp only [fillA, Act.put, List.setIfInBounds_toArray, List.set_cons_zero, List.set_cons_succ] at hNx ⊢
          simp only [e28] at hNx ⊢
          clear e28
          refine ifn (by rfl) ?_
          first | refine hNx _ _ ?_ | skip
          exact ⟨(unhide hF).step rfl rfl, (unhide HB).congr (fun k => by rcases k with _ | k <;> simp [EQb])⟩
        refine StepsR.cons 16 rfl ?_ ?_
        · intro L us W hi hdep hR Kx hNx
          have hF := hide hR.1
          have hB := hR.2
          clear hR
          have d7 : L 7 = true := hdep 7 (by kernel_rfl)
          clear hdep
          have e28 : us 28 = .bool false := (unhide hF).get (k := 7) rfl d7
          have HB := hide hB
          clear hB
          simp only [fillA, Act.put, List.setIfInBounds_toArray, List.set_cons_zero, List.set_cons_succ] at hNx ⊢
          simp only [e28] at hNx ⊢
          clear e28
          refine ifn (by rfl) ?_
          first | refine hNx _ _ ?_ | skip
          exact ⟨(unhide hF).step rfl rfl, (unhide HB).congr (fun k => by rcases k with _ | k <;> simp [EQb])⟩
        refine StepsR.cons 17 rfl ?_ ?_
        · intro L us W hi hdep hR Kx hNx
          have hF := hide hR.1
          have hB := hR.2
          clear hR
          have d7 : L 7 = true := hdep 7 (by kernel_rfl)
          clear hdep
          have e28 : us 28 = .bool false := (unhide hF).get (k := 7) rfl d7
          have HB := hide hB
          clear hB
          simp only [fillA, Act.put, List.setIfInBounds_toArray, List.set_cons_zero, List.set_cons_succ] at hNx ⊢
          simp only [e28] at hNx ⊢
          clear e28
          refine ifn (by rfl) ?_
          first | refine hNx _ _ ?_ | skip
          exact ⟨(unhide hF).step rfl rfl, (unhide HB).congr (fun k => by rcases k with _ | k <;> simp [EQb])⟩
        refine StepsR.cons 18 rfl ?_ ?_
        · intro L us W hi hdep hR Kx hNx
          have hF := hide hR.1
          have hB := hR.2
          clear hR
          have d4 : L 4 = true := hdep 4 (by kernel_rfl)
          have d7 : L 7 = true := hdep 7 (by kernel_rfl)
          have d16 : L 16 = true := hdep 16 (by kernel_rfl)
          clear hdep
          have e25 : us 25 = .bool false := (unhide hF).get (k := 4) rfl d4
          have e28 : us 28 = .bool false := (unhide hF).get (k := 7) rfl d7
          have e37 : us 37 = undef := (unhide hF).get (k := 16) rfl d16
          have HB := hide hB
          clear hB
          simp only [fillA, Act.put, List.setIfInBounds_toArray, List.set_cons_zero, List.set_cons_succ] at hNx ⊢
          simp only [e25, e28, e37] at hNx ⊢
          clear e25 e28 e37
          rw [if_pos (by rfl)]
          go_simp
          first | refine hNx _ _ ?_ | skip
          exact ⟨(unhide hF).step rfl rfl, (unhide HB).congr (fun k => by rcases k with _ | k <;> simp [EQb])⟩
        refine StepsR.cons 19 rfl ?_ ?_
        · intro L us W hi hdep hR Kx hNx
          have hF := hide hR.1
          have hB := hR.2
          clear hR
          have d4 : L 4 = true := hdep 4 (by kernel_rfl)
          have d17 : L 17 = true := hdep 17 (by kernel_rfl)
          clear hdep
          have e25 : us 25 = .bool false := (unhide hF).get (k := 4) rfl d4
          have e38 : us 38 = .bool false := (unhide hF).get (k := 17) rfl d17
          have HB := hide hB
          clear hB
          simp only [fillA, Act.put, List.setIfInBounds_toArray, List.set_cons_zero, List.set_cons_succ] at hNx ⊢
          simp only [e25, e38] at hNx ⊢
          clear e25 e38
          rw [if_pos (by rfl)]
          go_simp
          first | refine hNx _ _ ?_ | skip
          exact ⟨(unhide hF).step rfl rfl, (unhide HB).congr (fun k => by rcases k with _ | k <;> simp [EQb])⟩
        refine StepsR.cons 20 rfl ?_ ?_
        · intro L us W hi hdep hR Kx hNx
          have hF := hide hR.1
          have hB := hR.2
          clear hR
          have d18 : L 18 = true := hdep 18 (by kernel_rfl)
          clear hdep
          have e39 : us 39 = .bool false := (unhide hF).get (k := 18) rfl d18
          have HB := hide hB
          clear hB
          simp only [fillA, Act.put, List.setIfInBounds_toArray, List.set_cons_zero, List.set_cons_succ] at hNx ⊢
          simp only [e39] at hNx ⊢
          clear e39
          rw [if_pos (by rfl)]
          go_simp
          first | refine hNx _ _ ?_ | skip
          exact ⟨(unhide hF).step rfl rfl, (unhide HB).congr (fun k => by rcases k with _ | k <;> simp [EQb])⟩
        refine StepsR.cons 21 rfl ?_ ?_
        · intro L us W hi hdep hR Kx hNx
          have hF := hide hR.1
          have hB := hR.2
          clear hR
          have d19 : L 19 = true := hdep 19 (by kernel_rfl)
          clear hdep
          have e40 : us 40 = .bool false := (unhide hF).get (k := 19) rfl d19
          have HB := hide hB
          clear hB
          simp only [fillA, Act.put, List.setIfInBounds_toArray, List.set_cons_zero, List.set_cons_succ] at hNx ⊢
          simp only [e40] at hNx ⊢
          clear e40
          rw [if_pos (by rfl)]
          go_simp
          first | refine hNx _ _ ?_ | skip
          exact ⟨(unhide hF).step rfl rfl, (unhide HB).congr (fun k => by rcases k with _ | k <;> simp [EQb])⟩
        refine StepsR.cons 22 rfl ?_ ?_
        · intro L us W hi hdep hR Kx hNx
          have hF := hide hR.1
          have hB := hR.2
          clear hR
          have d19 : L 19 = true := hdep 19 (by kernel_rfl)
          have d20 : L 20 = true := hdep 20 (by kernel_rfl)
          clear hdep
          have hE : EQb LR wr b o cap m nc na id sl i j pv S w L us 0 = some (wr.heap.size, [.int .i64 id, .int .i64 sl, .slice na m nc]) := by simp [EQb]
          have e40 : us 40 = .bool false := (unhide hF).get (k := 19) rfl d19
          have e41 : us 41 = .pointer (some ⟨wr.heap.size, 1, none⟩) := (unhide hF).get (k := 20) rfl d20
          have hO := hB.ownV hE
          have c0 := hO.cell (i := 0) rfl
          have c1 := hO.cell (i := 1) rfl
          have c2 := hO.cell (i := 2) rfl
          clear hO
          have HB := hide hB
          clear hB
          have HE := hide hE
          clear hE
          simp only [fillA, Act.put, List.setIfInBounds_toArray, List.set_cons_zero, List.set_cons_succ] at hNx ⊢
          simp only [e40, e41] at hNx ⊢
          clear e40 e41
          rw [if_pos (by rfl)]
          go_simp
          first | refine hNx _ _ ?_ | skip
          exact ⟨(unhide hF).step rfl rfl, (unhide HB).congr (fun k => by rcases k with _ | k <;> simp [EQb])⟩
        refine StepsR.cons 23 rfl ?_ ?_
        · intro L us W hi hdep hR Kx hNx
          have hF := hide hR.1
          have hB := hR.2
          clear hR
          have d19 : L 19 = true := hdep 19 (by kernel_rfl)
          have d21 : L 21 = true := hdep 21 (by kernel_rfl)
          clear hdep
          have e40 : us 40 = .bool false := (unhide hF).get (k := 19) rfl d19
          have e42 : us 42 = .int .i64 sl := (unhide hF).get (k := 21) rfl d21
          have HB := hide hB
          clear hB
          simp only [fillA, Act.put, List.setIfInBounds_toArray, List.set_cons_zero, List.set_cons_succ] at hNx ⊢
          simp only [e40, e42] at hNx ⊢
          clear e40 e42
          rw [if_pos (by rfl)]
          have HC := hide (unhide HLs W)
          go_simp
          refine (unhide HC).mono ?_
          rintro e W' ⟨rfl, hb⟩
          replace HB := hide ((unhide HB).step hb)
          clear hb HC
          go_wp2_with fail
          first | refine hNx _ _ ?_ | skip
          exact ⟨(unhide hF).step rfl rfl, (unhide HB).congr (fun k => by rcases k with _ | k <;> simp [EQb])⟩
        refine StepsR.cons 24 rfl ?_ ?_
        · intro L us W hi hdep hR Kx hNx
          have hF := hide hR.1
          have hB := hR.2
          clear hR
          have d19 : L 19 = true := hdep 19 (by kernel_rfl)
          have d22 : L 22 = true := hdep 22 (by kernel_rfl)
          clear hdep
          have e40 : us 40 = .bool false := (unhide hF).get (k := 19) rfl d19
          have e43 : us 43 = .bool S := (unhide hF).get (k := 22) rfl d22
          have HB := hide hB
          clear hB
          simp only [fillA, Act.put, List.setIfInBounds_toArray, List.set_cons_zero, List.set_cons_succ] at hNx ⊢
          simp only [e40, e43] at hNx ⊢
          clear e40 e43
          rw [if_pos (by rfl)]
          go_simp
          first | refine hNx _ _ ?_ | skip
          exact ⟨(unhide hF).step rfl rfl, (unhide HB).congr (fun k => by rcases k with _ | k <;> simp [EQb])⟩
        refine StepsR.cons 25 rfl ?_ ?_
        · intro L us W hi hdep hR Kx hNx
          have hF := hide hR.1
          have hB := hR.2
          clear hR
          have d19 : L 19 = true := hdep 19 (by kernel_rfl)
          have d23 : L 23 = true := hdep 23 (by kernel_rfl)
          clear hdep
          have e40 : us 40 = .bool false := (unhide hF).get (k := 19) rfl d19
          have e44 : us 44 = .bool (!S) := (unhide hF).get (k := 23) rfl d23
          have HB := hide hB
          clear hB
          simp only [fillA, Act.put, List.setIfInBounds_toArray, List.set_cons_zero, List.set_cons_succ] at hNx ⊢
          simp only [e40, e44] at hNx ⊢
          clear e40 e44
          rw [if_pos (by rfl)]
          go_simp
          first | refine hNx _ _ ?_ | skip
          exact ⟨(unhide hF).step rfl rfl, (unhide HB).congr (fun k => by rcases k with _ | k <;> simp [EQb])⟩
        exact StepsR.nil
      · intro L us W hL hR
        have hF := hide hR.1
        have hB := hR.2
        clear hR
        have hE0 : EQb LR wr b o cap m nc na id sl i j pv S w L us 0 = some (wr.heap.size, [.int .i64 id, .int .i64 sl, .slice na m nc]) := by simp [EQb]
        have hO0 := hB.ownV hE0
        clear hE0
        have HA : Hid (Bk w W (XQb LR wr b o cap m nc na id sl i j pv S w)) := hide (hB.congr (fun k => by rcases k with _ | k <;> simp [EQb, XQb]))
        have f0 : us 21 = .pointer (some ⟨wr.heap.size, 0, none⟩) := (unhide hF).get (k := 0) rfl (hL 0 (by decide))
        have f1 : us 22 = .int .i64 id := (unhide hF).get (k := 1) rfl (hL 1 (by decide))
        have f2 : us 23 = .bool true := (unhide hF).get (k := 2) rfl (hL 2 (by decide))
        have f3 : us 24 = .bool false := (unhide hF).get (k := 3) rfl (hL 3 (by decide))
        have f4 : us 25 = .bool false := (unhide hF).get (k := 4) rfl (hL 4 (by decide))
        have f5 : us 26 = .int .i64 (i : Int) := (unhide hF).get (k := 5) rfl (hL 5 (by decide))
        have f6 : us 27 = .bool false := (unhide hF).get (k := 6) rfl (hL 6 (by decide))
        have f7 : us 28 = .bool false := (unhide hF).get (k := 7) rfl (hL 7 (by decide))
        have f8 : us 29 = undef := (unhide hF).get (k := 8) rfl (hL 8 (by decide))
        have f9 : us 30 = undef := (unhide hF).get (k := 9) rfl (hL 9 (by decide))
        have f10 : us 31 = undef := (unhide hF).get (k := 10) rfl (hL 10 (by decide))
        have f11 : us 32 = undef := (unhide hF).get (k := 11) rfl (hL 11 (by decide))
        have f12 : us 33 = undef := (unhide hF).get (k := 12) rfl (hL 12 (by decide))
        have f13 : us 34 = undef := (unhide hF).get (k := 13) rfl (hL 13 (by decide))
        have f14 : us 35 = undef := (unhide hF).get (k := 14) rfl (hL 14 (by decide))
        have f15 : us 36 = undef := (unhide hF).get (k := 15) rfl (hL 15 (by decide))
        have f16 : us 37 = undef := (unhide hF).get (k := 16) rfl (hL 16 (by decide))
        have f17 : us 38 = .bool false := (unhide hF).get (k := 17) rfl (hL 17 (by decide))
        have f18 : us 39 = .bool false := (unhide hF).get (k := 18) rfl (hL 18 (by decide))
        have f19 : us 40 = .bool false := (unhide hF).get (k := 19) rfl (hL 19 (by decide))
        have f20 : us 41 = .pointer (some ⟨wr.heap.size, 1, none⟩) := (unhide hF).get (k := 20) rfl (hL 20 (by decide))
        have f21 : us 42 = .int .i64 sl := (unhide hF).get (k := 21) rfl (hL 21 (by decide))
        have f22 : us 43 = .bool S := (unhide hF).get (k := 22) rfl (hL 22 (by decide))
        have f23 : us 44 = .bool (!S) := (unhide hF).get (k := 23) rfl (hL 23 (by decide))
        have f24 : us 45 = .bool (!S) := (unhide hF).get (k := 24) rfl (hL 24 (by decide))
        have HW := hide hB.below
        clear hB hL
        simp only [fillA, Act.put, List.setIfInBounds_toArray, List.set_cons_zero, List.set_cons_succ]
        simp only [f0, f1, f2, f3, f4, f5, f6, f7, f8, f9, f10, f11, f12, f13, f14, f15, f16, f17, f18, f19, f20, f21, f22, f23, f24]
        clear hF f0 f1 f2 f3 f4 f5 f6 f7 f8 f9 f10 f11 f12 f13 f14 f15 f16 f17 f18 f19 f20 f21 f22 f23 f24
        clear us L
        clear hO0 hgt hgn HBK
        cases S
        · have HF : Hid (pB (RadsOk LR) = false) := pB_false fun hh => unhide HSl rfl (hh.2.2.1 i hin).2.1
          go_wp2
          go_ret
          exact ⟨ret_bool (unhide HF).symm, unhide HW⟩
        have HSO := hide (unhide HSl1 rfl)
        have HBX := hide (unhide HA).below
        have HO0 := hide ((unhide HA).ownV (k := 0) rfl)
        clear HA HW HSl HSl1 HLs HLa
        have c2 := (unhide HO0).cell (i := 2) rfl
        go_wp2
        go_loopg [5] m (fun g kv wr2 => Below w.heap.size w wr2 ∧ OwnV wr2 wr.heap.size [.int .i64 id, .int .i64 sl, .slice na m nc] ∧ ∃ k : Nat, k ≤ m ∧ g = m - k ∧ kv = .int .i64 k ∧ Hid (∀ q, q < k → HeAt H i LR.length q ∧ MuAt LR i q))
        case atStart => exact ⟨unhide HBX, unhide HO0, 0, Nat.zero_le _, rfl, rfl, fun q hq => by omega⟩
        case round =>
          obtain ⟨hW2, hO2, k, hk, rfl, rfl, HK⟩ := hrel
          clear c2 HBX HO0
          have c2 := hO2.cell (i := 2) rfl
          by_cases hkm : k < m
          case neg =>
            have HD' : Hid (∀ r, r < i + 1 → IdOk LR r ∧ SlOk LR r ∧ HeOk (rHe LR r) r LR.length ∧ ∀ q, q < (rHe LR r).length → MuAt LR r q) := fun r hr => by
              by_cases e : r = i
              · subst e
                refine ⟨unhide HID, unhide HSO, ?_, ?_⟩
                · rw [unhide E3]; intro q hq; rw [unhide EM] at hq; exact (HK.out q (by omega)).1
                · rw [unhide E3]; intro q hq; rw [unhide EM] at hq; exact (HK.out q (by omega)).2
              · exact HD.out r (by omega)
            have HW2 := hide hW2
            clear HD HK hW2 hO2
            go_wp2
            go_roundg (LR.length - (i + 1))
            case measure => omega
            case rel => exact ⟨unhide HW2, i + 1, by omega, rfl, by go_num, HD'⟩
          obtain ⟨b', o', rfl, hcell⟩ := intAt (unhide HR) hkm
          have c0 := wcell3 hcell hW2
          have hkm' : (k : Int) < m := by omega
          obtain ⟨x, hx⟩ : ∃ x : Int, x = H.getD k 0 := ⟨_, rfl⟩
          have HX := hide hx
          rw [← hx] at c0
          have HHE : Hid (RadsOk LR → HeAt H i LR.length k ∧ MuAt LR i k) := fun hh => by
            have h1 := (hh.2.2.1 i hin).2.2
            have h2 := hh.2.2.2 i hin
            rw [unhide E3] at h1 h2
            exact ⟨h1 k (by rw [unhide EM]; exact hkm), h2 k (by rw [unhide EM]; exact hkm)⟩
          have HW := hide hW2
          have HO2 := hide hO2
          clear hcell hx
          cases hx0 : inB x 0 ((LR.length : Int) - 1) with
          | false =>
            have HF : Hid (pB (RadsOk LR) = false) := pB_false fun hh => by
              obtain ⟨q1, q2, -, -⟩ := (unhide HHE hh).1
              rw [← unhide HX] at q1 q2
              rw [inB_mk q1 (by omega)] at hx0
              cases hx0
            clear HK HD hW2 hO2 HHE
            go_wp2_with (go_at_call 54; refine (l1In_any _ _ _ _).mono ?_; rintro e w' ⟨rfl, h9⟩; have h8 := h9.symm; subst h8; clear h9)
            go_ret
            exact ⟨ret_bool (unhide HF).symm, unhide HW⟩
          | true =>
          obtain ⟨hx1, hx2⟩ := inB_true hx0
          by_cases hxi : x = (i : Int)
          · have HF : Hid (pB (RadsOk LR) = false) := pB_false fun hh => by
              have := (unhide HHE hh).1.2.2.1
              rw [← unhide HX] at this
              exact this hxi
            have hd : (x == (i : Int)) = true := by simpa using hxi
            clear HK HD hW2 hO2 HHE hxi
            go_wp2_with (go_at_call 54; refine (l1In_any _ _ _ _).mono ?_; rintro e w' ⟨rfl, h9⟩; have h8 := h9.symm; subst h8; clear h9)
            go_ret
            exact ⟨ret_bool (unhide HF).symm, unhide HW⟩
          have hd : (x == (i : Int)) = false := by simpa using hxi
          obtain ⟨xn, hxn⟩ : ∃ xn : Nat, x = (xn : Int) := ⟨x.toNat, by omega⟩
          have hxl : xn < LR.length := by omega
          obtain ⟨b2, o2, na2, nc2, id2, sl2, H2, m2, e2, hd0, hd1, hd2, hr2, EX2, EM2, hm2⟩ := radAt (unhide HC) hxl
          simp only [Option.some.injEq, Addr.mk.injEq, and_true] at e2
          obtain ⟨rfl, rfl⟩ := e2
          have q2 := wcell3 hd2 hW2
          have HI2 := hide (l9Has_any _ H2 (i : Int) _ (hr2.below hW2))
          have HMU : Hid (MuAt LR i k ↔ H2.contains (i : Int) = true) := by
            show _ ↔ _
            unfold MuAt
            rw [unhide E3, ← unhide HX, hxn, Int.toNat_natCast, show rHe LR xn = H2 from by show (LR.getD xn default).2.2 = H2; rw [unhide EX2]]
          have HXI := hide hxi
          have HXN := hide hxn
          rw [hxn] at c0 hd hx0 hx1 hx2
          clear hd0 hd1 hd2 hr2 hxi hxn
          rcases Nat.eq_zero_or_pos k with hk0 | hk0
          · have hgt : decide (0 < (k : Int)) = false := by rw [decide_eq_false_iff_not]; omega
            have hgn : decide (0 < k) = false := by rw [decide_eq_false_iff_not]; omega
            have HK0 := hide hk0
            clear hk0
            cases hcn : H2.contains (i : Int) with
            | false =>
              have HF : Hid (pB (RadsOk LR) = false) := pB_false fun hh => by
                have := (unhide HMU).1 (unhide HHE hh).2
                rw [hcn] at this
                cases this
              rw [hcn] at HI2
              clear hcn HK HD hW2 hO2 HHE HMU
              go_wp2_with (first | (go_at_call 54; refine (l1In_any _ _ _ _).mono ?_; rintro e w' ⟨rfl, h9⟩; have h8 := h9.symm; subst h8; clear h9) | (go_at_call 73; refine (unhide HI2).mono ?_; rintro e w' ⟨rfl, h9⟩; have h8 := h9.symm; subst h8; clear h9))
              go_ret
              exact ⟨ret_bool (unhide HF).symm, unhide HW⟩
            | true =>
              have HK' : Hid (∀ q, q < k + 1 → HeAt H i LR.length q ∧ MuAt LR i q) := fun q hq => by
                by_cases e : q = k
                · subst e
                  refine ⟨⟨by rw [← unhide HX, unhide HXN]; omega, by rw [← unhide HX, unhide HXN]; omega, by rw [← unhide HX]; exact unhide HXI, fun h0 => ?_⟩, (unhide HMU).2 hcn⟩
                  have := unhide HK0; omega
                · exact HK.out q (by omega)
              rw [hcn] at HI2
              clear hcn HK hW2 hO2 HHE HMU
              go_wp2_with (first | (go_at_call 54; refine (l1In_any _ _ _ _).mono ?_; rintro e w' ⟨rfl, h9⟩; have h8 := h9.symm; subst h8; clear h9) | (go_at_call 73; refine (unhide HI2).mono ?_; rintro e w' ⟨rfl, h9⟩; have h8 := h9.symm; subst h8; clear h9))
              go_roundg (m - (k + 1))
              case measure => omega
              case rel => exact ⟨unhide HW, unhide HO2, k + 1, by omega, rfl, by go_num, HK'⟩
          · have hgt : decide (0 < (k : Int)) = true := by rw [decide_eq_true_eq]; omega
            have hgn : decide (0 < k) = true := by rw [decide_eq_true_eq]; omega
            obtain ⟨jk, ejk⟩ : ∃ jk : Nat, jk = k - 1 := ⟨_, rfl⟩
            have ejk' : (k : Int) - 1 = (jk : Int) := by omega
            have hjw : IntKind.i64.wrap ((k : Int) - 1) = (jk : Int) := by rw [IntKind.wrap_i64]; omega
            have hjj : IntKind.i64.wrap (jk : Int) = (jk : Int) := by rw [IntKind.wrap_i64]; omega
            have hjm : jk < m := by omega
            have hjm' : (jk : Int) < m := by omega
            obtain ⟨b3, o3, e3, hcell3⟩ := intAt (unhide HR) hjm
            simp only [Option.some.injEq, Addr.mk.injEq, and_true] at e3
            obtain ⟨rfl, rfl⟩ := e3
            have c3 := wcell3 hcell3 hW2
            obtain ⟨y, hy⟩ : ∃ y : Int, y = H.getD jk 0 := ⟨_, rfl⟩
            rw [← hy] at c3
            have HY : Hid (y = H.getD (k - 1) 0) := by show _ = _; rw [hy, ejk]
            have HJK := hide ejk
            clear hcell3 hy ejk
            cases hyx : decide ((xn : Int) ≤ y) with
            | true =>
              have HF : Hid (pB (RadsOk LR) = false) := pB_false fun hh => by
                have := (unhide HHE hh).1.2.2.2 hk0
                rw [← unhide HX, ← unhide HY, unhide HXN] at this
                have := of_decide_eq_true hyx
                omega
              have hkk : ¬ k = 0 := by omega
              clear HK HD hW2 hO2 HHE HMU
              go_wp2_with (go_at_call 54; refine (l1In_any _ _ _ _).mono ?_; rintro e w' ⟨rfl, h9⟩; have h8 := h9.symm; subst h8; clear h9)
              go_ret
              exact ⟨ret_bool (unhide HF).symm, unhide HW⟩
            | false =>
            cases hcn : H2.contains (i : Int) with
            | false =>
              have HF : Hid (pB (RadsOk LR) = false) := pB_false fun hh => by
                have := (unhide HMU).1 (unhide HHE hh).2
                rw [hcn] at this
                cases this
              rw [hcn] at HI2
              clear hcn HK HD hW2 hO2 HHE HMU
              go_wp2_with (first | (go_at_call 54; refine (l1In_any _ _ _ _).mono ?_; rintro e w' ⟨rfl, h9⟩; have h8 := h9.symm; subst h8; clear h9) | (go_at_call 73; refine (unhide HI2).mono ?_; rintro e w' ⟨rfl, h9⟩; have h8 := h9.symm; subst h8; clear h9))
              go_ret
              exact ⟨ret_bool (unhide HF).symm, unhide HW⟩
            | true =>
              have HK' : Hid (∀ q, q < k + 1 → HeAt H i LR.length q ∧ MuAt LR i q) := fun q hq => by
                by_cases e : q = k
                · subst e
                  refine ⟨⟨by rw [← unhide HX, unhide HXN]; omega, by rw [← unhide HX, unhide HXN]; omega, by rw [← unhide HX]; exact unhide HXI, fun h0 => ?_⟩, (unhide HMU).2 hcn⟩
                  rw [← unhide HX, ← unhide HY, unhide HXN]
                  have := of_decide_eq_false hyx
                  omega
                · exact HK.out q (by omega)
              rw [hcn] at HI2
              clear hcn HK hW2 hO2 HHE HMU
              go_wp2_with (first | (go_at_call 54; refine (l1In_any _ _ _ _).mono ?_; rintro e w' ⟨rfl, h9⟩; have h8 := h9.symm; subst h8; clear h9) | (go_at_call 73; refine (unhide HI2).mono ?_; rintro e w' ⟨rfl, h9⟩; have h8 := h9.symm; subst h8; clear h9))
              go_roundg (m - (k + 1))
              case measure => omega
              case rel => exact ⟨unhide HW, unhide HO2, k + 1, by omega, rfl, by go_num, HK'⟩
    · have hgt : decide (0 < (i : Int)) = true := by rw [decide_eq_true_eq]; omega
      have hgn : decide (0 < i) = true := by rw [decide_eq_true_eq]; omega
      have hjj : IntKind.i64.wrap (j : Int) = (j : Int) := by rw [IntKind.wrap_i64]; omega
      have ej' : (i : Int) - 1 = (j : Int) := by omega
      have hjw : IntKind.i64.wrap ((i : Int) - 1) = (j : Int) := by rw [IntKind.wrap_i64]; omega
      have hjl : j < LR.length := by omega
      have hjl' : (j : Int) < LR.length := by omega
      obtain ⟨b3, o3, na3, nc3, id3, sl3, H3, m3, e3, hd0, -, -, -, EX3, -, -⟩ := radAt (unhide HC) hjl
      simp only [Option.some.injEq, Addr.mk.injEq, and_true] at e3
      obtain ⟨rfl, rfl⟩ := e3
      have hpv : w.cell? ⟨b, o + j * 3, none⟩ = some (.int .i64 pv) := by rw [epv, show rId LR j = id3 from by show (LR.getD j default).1 = id3; rw [unhide EX3]]; exact hd0
      clear hd0
      have HPV : Hid (rId LR (i - 1) = pv) := by show _ = _; rw [epv, ej]
      have HEJ := hide ej
      clear epv ej
      cases hpp : decide (id ≤ pv)
      case true =>
        have HF : Hid (pB (RadsOk LR) = false) := pB_false fun hh => by
          obtain ⟨-, -, k3⟩ := (hh.2.2.1 i hin).1
          have := k3 hi0
          rw [unhide E1, unhide HPV] at this
          have := of_decide_eq_true hpp
          omega
        go_wp2_with fail
        have HB0 : Hid (∀ us, Bk w _ (EQc LR wr b o cap m nc na id sl i j pv S w (fun _ => false) us)) := hide (fun us => ((unhide HBK)).congr (fun k => by rcases k with _ | k <;> simp [EQc, EOne]))
        refine wp_region_slots [21, 22, 23, 24, 25, 26, 27, 28, 29, 30, 31, 32, 33, 34, 35, 36, 37, 38, 39, 40, 41, 42, 43, 44, 45] (RQc LR wr b o cap m nc na id sl i j pv S w) (by kernel_rfl) (by kernel_rfl) (by decide) (by kernel_rfl) ?_ ?_ ?_
        · intro us
          exact ⟨facts_start us _, (unhide HB0 us).drew⟩
        · clear HB0
          refine StepsR.cons 1 rfl ?_ ?_
          · intro L us W hi hdep hR Kx hNx
            have hF := hide hR.1
            have hB := hR.2
            clear hR
            clear hdep
            have HB := hide hB
            clear hB
            simp only [fillA, Act.put, List.setIfInBounds_toArray, List.set_cons_zero, List.set_cons_succ] at hNx ⊢
            rw [if_pos (by rfl)]
            go_simp
            first | refine hNx _ _ ?_ | skip
            exact ⟨(unhide hF).step rfl rfl, (unhide HB).congr (fun k => by rcases k with _ | k <;> simp [EQc])⟩
          refine StepsR.cons 2 rfl ?_ ?_
          · intro L us W hi hdep hR Kx hNx
            have hF := hide hR.1
            have hB := hR.2
            clear hR
            have d0 : L 0 = true := hdep 0 (by kernel_rfl)
            clear hdep
            have hE : EQc LR wr b o cap m nc na id sl i j pv S w L us 0 = some (wr.heap.size, [.int .i64 id, .int .i64 sl, .slice na m nc]) := by simp [EQc]
            have e21 : us 21 = .pointer (some ⟨wr.heap.size, 0, none⟩) := (unhide hF).get (k := 0) rfl d0
            have hO := hB.ownV hE
            have c0 := hO.cell (i := 0) rfl
            have c1 := hO.cell (i := 1) rfl
            have c2 := hO.cell (i := 2) rfl
            clear hO
            have HB := hide hB
            clear hB
            have HE := hide hE
            clear hE
            simp only [fillA, Act.put, List.setIfInBounds_toArray, List.set_cons_zero, List.set_cons_succ] at hNx ⊢
            simp only [e21] at hNx ⊢
            clear e21
            rw [if_pos (by rfl)]
            go_simp
            first | refine hNx _ _ ?_ | skip
            exact ⟨(unhide hF).step rfl rfl, (unhide HB).congr (fun k => by rcases k with _ | k <;> simp [EQc])⟩
          refine StepsR.cons 3 rfl ?_ ?_
          · intro L us W hi hdep hR Kx hNx
            have hF := hide hR.1
            have hB := hR.2
            clear hR
            have d1 : L 1 = true := hdep 1 (by kernel_rfl)
            clear hdep
            have e22 : us 22 = .int .i64 id := (unhide hF).get (k := 1) rfl d1
            have HB := hide hB
            clear hB
            simp only [fillA, Act.put, List.setIfInBounds_toArray, List.set_cons_zero, List.set_cons_succ] at hNx ⊢
            simp only [e22] at hNx ⊢
            clear e22
            rw [if_pos (by rfl)]
            have HC := hide (unhide HLa W)
            go_simp
            refine (unhide HC).mono ?_
            rintro e W' ⟨rfl, hb⟩
            replace HB := hide ((unhide HB).step hb)
            clear hb HC
            go_wp2_with fail
            first | refine hNx _ _ ?_ | skip
            exact ⟨(unhide hF).step rfl rfl, (unhide HB).congr (fun k => by rcases k with _ | k <;> simp [EQc])⟩
          refine StepsR.cons 4 rfl ?_ ?_
          · intro L us W hi hdep hR Kx hNx
            have hF := hide hR.1
            have hB := hR.2
            clear hR
            have d2 : L 2 = true := hdep 2 (by kernel_rfl)
            clear hdep
            have e23 : us 23 = .bool true := (unhide hF).get (k := 2) rfl d2
            have HB := hide hB
            clear hB
            simp only [fillA, Act.put, List.setIfInBounds_toArray, List.set_cons_zero, List.set_cons_succ] at hNx ⊢
            simp only [e23] at hNx ⊢
            clear e23
            rw [if_pos (by rfl)]
            go_simp
            first | refine hNx _ _ ?_ | skip
            exact ⟨(unhide hF).step rfl rfl, (unhide HB).congr (fun k => by rcases k with _ | k <;> simp [EQc])⟩
          refine StepsR.cons 5 rfl ?_ ?_
          · intro L us W hi hdep hR Kx hNx
            have hF := hide hR.1
            have hB := hR.2
            clear hR
            have d3 : L 3 = true := hdep 3 (by kernel_rfl)
            clear hdep
            have e24 : us 24 = .bool false := (unhide hF).get (k := 3) rfl d3
            have HB := hide hB
            clear hB
            simp only [fillA, Act.put, List.setIfInBounds_toArray, List.set_cons_zero, List.set_cons_succ] at hNx ⊢
            simp only [e24] at hNx ⊢
            clear e24
            rw [if_pos (by rfl)]
            go_simp
            first | refine hNx _ _ ?_ | skip
            exact ⟨(unhide hF).step rfl rfl, (unhide HB).congr (fun k => by rcases k with _ | k <;> simp [EQc])⟩
          refine StepsR.cons 6 rfl ?_ ?_
          · intro L us W hi hdep hR Kx hNx
            have hF := hide hR.1
            have hB := hR.2
            clear hR
            have d4 : L 4 = true := hdep 4 (by kernel_rfl)
            clear hdep
            have e25 : us 25 = .bool false := (unhide hF).get (k := 4) rfl d4
            have HB := hide hB
            clear hB
            simp only [fillA, Act.put, List.setIfInBounds_toArray, List.set_cons_zero, List.set_cons_succ] at hNx ⊢
            simp only [e25] at hNx ⊢
            clear e25
            rw [if_pos (by rfl)]
            go_simp
            first | refine hNx _ _ ?_ | skip
            exact ⟨(unhide hF).step rfl rfl, (unhide HB).congr (fun k => by rcases k with _ | k <;> simp [EQc])⟩
          refine StepsR.cons 7 rfl ?_ ?_
          · intro L us W hi hdep hR Kx hNx
            have hF := hide hR.1
            have hB := hR.2
            clear hR
            have d4 : L 4 = true := hdep 4 (by kernel_rfl)
            have d5 : L 5 = true := hdep 5 (by kernel_rfl)
            clear hdep
            have e25 : us 25 = .bool false := (unhide hF).get (k := 4) rfl d4
            have e26 : us 26 = .int .i64 (i : Int) := (unhide hF).get (k := 5) rfl d5
            have HB := hide hB
            clear hB
            simp only [fillA, Act.put, List.setIfInBounds_toArray, List.set_cons_zero, List.set_cons_succ] at hNx ⊢
            simp only [e25, e26] at hNx ⊢
            clear e25 e26
            rw [if_pos (by rfl)]
            go_simp
            first | refine hNx _ _ ?_ | skip
            exact ⟨(unhide hF).step rfl rfl, (unhide HB).congr (fun k => by rcases k with _ | k <;> simp [EQc])⟩
          refine StepsR.cons 8 rfl ?_ ?_
          · intro L us W hi hdep hR Kx hNx
            have hF := hide hR.1
            have hB := hR.2
            clear hR
            have d4 : L 4 = true := hdep 4 (by kernel_rfl)
            have d6 : L 6 = true := hdep 6 (by kernel_rfl)
            clear hdep
            have e25 : us 25 = .bool false := (unhide hF).get (k := 4) rfl d4
            have e27 : us 27 = .bool true := (unhide hF).get (k := 6) rfl d6
            have HB := hide hB
            clear hB
            simp only [fillA, Act.put, List.setIfInBounds_toArray, List.set_cons_zero, List.set_cons_succ] at hNx ⊢
            simp only [e25, e27] at hNx ⊢
            clear e25 e27
            rw [if_pos (by rfl)]
            go_simp
            first | refine hNx _ _ ?_ | skip
            exact ⟨(unhide hF).step rfl rfl, (unhide HB).congr (fun k => by rcases k with _ | k <;> simp [EQc])⟩
          refine StepsR.cons 9 rfl ?_ ?_
          · intro L us W hi hdep hR Kx hNx
            have hF := hide hR.1
            have hB := hR.2
            clear hR
            have d7 : L 7 = true := hdep 7 (by kernel_rfl)
            clear hdep
            have e28 : us 28 = .bool true := (unhide hF).get (k := 7) rfl d7
            have HB := hide hB
            clear hB
            simp only [fillA, Act.put, List.setIfInBounds_toArray, List.set_cons_zero, List.set_cons_succ] at hNx ⊢
            simp only [e28] at hNx ⊢
            clear e28
            rw [if_pos (by rfl)]
            go_simp
            first | refine hNx _ _ ?_ | skip
            exact ⟨(unhide hF).step rfl rfl, (unhide HB).congr (fun k => by rcases k with _ | k <;> simp [EQc])⟩
          refine StepsR.cons 10 rfl ?_ ?_
          · intro L us W hi hdep hR Kx hNx
            have hF := hide hR.1
            have hB := hR.2
            clear hR
            have d7 : L 7 = true := hdep 7 (by kernel_rfl)
            clear hdep
            have e28 : us 28 = .bool true := (unhide hF).get (k := 7) rfl d7
            have HB := hide hB
            clear hB
            simp only [fillA, Act.put, List.setIfInBounds_toArray, List.set_cons_zero, List.set_cons_succ] at hNx ⊢
            simp only [e28] at hNx ⊢
            clear e28
            rw [if_pos (by rfl)]
            go_simp
            first | refine hNx _ _ ?_ | skip
            exact ⟨(unhide hF).step rfl rfl, (unhide HB).congr (fun k => by rcases k with _ | k <;> simp [EQc])⟩
          refine StepsR.cons 11 rfl ?_ ?_
          · intro L us W hi hdep hR Kx hNx
            have hF := hide hR.1
            have hB := hR.2
            clear hR
            have d7 : L 7 = true := hdep 7 (by kernel_rfl)
            have d9 : L 9 = true := hdep 9 (by kernel_rfl)
            clear hdep
            have e28 : us 28 = .bool true := (unhide hF).get (k := 7) rfl d7
            have e30 : us 30 = .int .i64 (i : Int) := (unhide hF).get (k := 9) rfl d9
            have HB := hide hB
            clear hB
            simp only [fillA, Act.put, List.setIfInBounds_toArray, List.set_cons_zero, List.set_cons_succ] at hNx ⊢
            simp only [e28, e30] at hNx ⊢
            clear e28 e30
            rw [if_pos (by rfl)]
            go_simp
            first | refine hNx _ _ ?_ | skip
            exact ⟨(unhide hF).step rfl rfl, (unhide HB).congr (fun k => by rcases k with _ | k <;> simp [EQc])⟩
          refine StepsR.cons 12 rfl ?_ ?_
          · intro L us W hi hdep hR Kx hNx
            have hF := hide hR.1
            have hB := hR.2
            clear hR
            have d7 : L 7 = true := hdep 7 (by kernel_rfl)
            have d8 : L 8 = true := hdep 8 (by kernel_rfl)
            have d10 : L 10 = true := hdep 10 (by kernel_rfl)
            clear hdep
            have e28 : us 28 = .bool true := (unhide hF).get (k := 7) rfl d7
            have e29 : us 29 = .slice (some ⟨b, o, none⟩) LR.length cap := (unhide hF).get (k := 8) rfl d8
            have e31 : us 31 = .int .i64 (j : Int) := (unhide hF).get (k := 10) rfl d10
            have HB := hide hB
            clear hB
            simp only [fillA, Act.put, List.setIfInBounds_toArray, List.set_cons_zero, List.set_cons_succ] at hNx ⊢
            simp only [e28, e29, e31] at hNx ⊢
            clear e28 e29 e31
            rw [if_pos (by rfl)]
            go_simp
            first | refine hNx _ _ ?_ | skip
            exact ⟨(unhide hF).step rfl rfl, (unhide HB).congr (fun k => by rcases k with _ | k <;> simp [EQc])⟩
          refine StepsR.cons 13 rfl ?_ ?_
          · intro L us W hi hdep hR Kx hNx
            have hF := hide hR.1
            have hB := hR.2
            clear hR
            have d7 : L 7 = true := hdep 7 (by kernel_rfl)
            have d11 : L 11 = true := hdep 11 (by kernel_rfl)
            clear hdep
            have e28 : us 28 = .bool true := (unhide hF).get (k := 7) rfl d7
            have e32 : us 32 = .pointer (some ⟨b, o + j * 3, none⟩) := (unhide hF).get (k := 11) rfl d11
            have HB := hide hB
            clear hB
            simp only [fillA, Act.put, List.setIfInBounds_toArray, List.set_cons_zero, List.set_cons_succ] at hNx ⊢
            simp only [e28, e32] at hNx ⊢
            clear e28 e32
            rw [if_pos (by rfl)]
            go_simp
            first | refine hNx _ _ ?_ | skip
            exact ⟨(unhide hF).step rfl rfl, (unhide HB).congr (fun k => by rcases k with _ | k <;> simp [EQc])⟩
          refine StepsR.cons 14 rfl ?_ ?_
          · intro L us W hi hdep hR Kx hNx
            have hF := hide hR.1
            have hB := hR.2
            clear hR
            have d7 : L 7 = true := hdep 7 (by kernel_rfl)
            have d12 : L 12 = true := hdep 12 (by kernel_rfl)
            clear hdep
            have e28 : us 28 = .bool true := (unhide hF).get (k := 7) rfl d7
            have e33 : us 33 = .pointer (some ⟨b, o + j * 3, none⟩) := (unhide hF).get (k := 12) rfl d12
            have HB := hide hB
            clear hB
            simp only [fillA, Act.put, List.setIfInBounds_toArray, List.set_cons_zero, List.set_cons_succ] at hNx ⊢
            simp only [e28, e33] at hNx ⊢
            clear e28 e33
            rw [if_pos (by rfl)]
            have hcx := ((unhide HB).below.cell (lt_of_cell hpv)).trans hpv
            go_simp
            first | refine hNx _ _ ?_ | skip
            exact ⟨(unhide hF).step rfl rfl, (unhide HB).congr (fun k => by rcases k with _ | k <;> simp [EQc])⟩
          refine StepsR.cons 15 rfl ?_ ?_
          · intro L us W hi hdep hR Kx hNx
            have hF := hide hR.1
            have hB := hR.2
            clear hR
            have d7 : L 7 = true := hdep 7 (by kernel_rfl)
            clear hdep
            have e28 : us 28 = .bool true := (unhide hF).get (k := 7) rfl d7
            have HB := hide hB
            clear hB
            simp only [fillA, Act.put, List.setIfInBounds_toArray, List.set_cons_zero, List.set_cons_succ] at hNx ⊢
            simp only [e28] at hNx ⊢
            clear e28
            rw [if_pos (by rfl)]
            go_simp
            first | refine hNx _ _ ?_ | skip
            exact ⟨(unhide hF).step rfl rfl, (unhide HB).congr (fun k => by rcases k with _ | k <;> simp [EQc])⟩
          refine StepsR.cons 16 rfl ?_ ?_
          · intro L us W hi hdep hR Kx hNx
            have hF := hide hR.1
            have hB := hR.2
            clear hR
            have d7 : L 7 = true := hdep 7 (by kernel_rfl)
            have d14 : L 14 = true := hdep 14 (by kernel_rfl)
            clear hdep
            have hE : EQc LR wr b o cap m nc na id sl i j pv S w L us 0 = some (wr.heap.size, [.int .i64 id, .int .i64 sl, .slice na m nc]) := by simp [EQc]
            have e28 : us 28 = .bool true := (unhide hF).get (k := 7) rfl d7
            have e35 : us 35 = .pointer (some ⟨wr.heap.size, 0, none⟩) := (unhide hF).get (k := 14) rfl d14
            have hO := hB.ownV hE
            have c0 := hO.cell (i := 0) rfl
            have c1 := hO.cell (i := 1) rfl
            have c2 := hO.cell (i := 2) rfl
            clear hO
            have HB := hide hB
            clear hB
            have HE := hide hE
            clear hE
            simp only [fillA, Act.put, List.setIfInBounds_toArray, List.set_cons_zero, List.set_cons_succ] at hNx ⊢
            simp only [e28, e35] at hNx ⊢
            clear e28 e35
            rw [if_pos (by rfl)]
            go_simp
            first | refine hNx _ _ ?_ | skip
            exact ⟨(unhide hF).step rfl rfl, (unhide HB).congr (fun k => by rcases k with _ | k <;> simp [EQc])⟩
          refine StepsR.cons 17 rfl ?_ ?_
          · intro L us W hi hdep hR Kx hNx
            have hF := hide hR.1
            have hB := hR.2
            clear hR
            have d7 : L 7 = true := hdep 7 (by kernel_rfl)
            have d13 : L 13 = true := hdep 13 (by kernel_rfl)
            have d15 : L 15 = true := hdep 15 (by kernel_rfl)
            clear hdep
            have e28 : us 28 = .bool true := (unhide hF).get (k := 7) rfl d7
            have e34 : us 34 = .int .i64 pv := (unhide hF).get (k := 13) rfl d13
            have e36 : us 36 = .int .i64 id := (unhide hF).get (k := 15) rfl d15
            have HB := hide hB
            clear hB
            simp only [fillA, Act.put, List.setIfInBounds_toArray, List.set_cons_zero, List.set_cons_succ] at hNx ⊢
            simp only [e28, e34, e36] at hNx ⊢
            clear e28 e34 e36
            rw [if_pos (by rfl)]
            go_simp
            first | refine hNx _ _ ?_ | skip
            exact ⟨(unhide hF).step rfl rfl, (unhide HB).congr (fun k => by rcases k with _ | k <;> simp [EQc])⟩
          refine StepsR.cons 18 rfl ?_ ?_
          · intro L us W hi hdep hR Kx hNx
            have hF := hide hR.1
            have hB := hR.2
            clear hR
            have d4 : L 4 = true := hdep 4 (by kernel_rfl)
            have d7 : L 7 = true := hdep 7 (by kernel_rfl)
            have d16 : L 16 = true := hdep 16 (by kernel_rfl)
            clear hdep
            have e25 : us 25 = .bool false := (unhide hF).get (k := 4) rfl d4
            have e28 : us 28 = .bool true := (unhide hF).get (k := 7) rfl d7
            have e37 : us 37 = .bool true := (unhide hF).get (k := 16) rfl d16
            have HB := hide hB
            clear hB
            simp only [fillA, Act.put, List.setIfInBounds_toArray, List.set_cons_zero, List.set_cons_succ] at hNx ⊢
            simp only [e25, e28, e37] at hNx ⊢
            clear e25 e28 e37
            rw [if_pos (by rfl)]
            go_simp
            first | refine hNx _ _ ?_ | skip
            exact ⟨(unhide hF).step rfl rfl, (unhide HB).congr (fun k => by rcases k with _ | k <;> simp [EQc])⟩
          refine StepsR.cons 19 rfl ?_ ?_
          · intro L us W hi hdep hR Kx hNx
            have hF := hide hR.1
            have hB := hR.2
            clear hR
            have d4 : L 4 = true := hdep 4 (by kernel_rfl)
            have d17 : L 17 = true := hdep 17 (by kernel_rfl)
            clear hdep
            have e25 : us 25 = .bool false := (unhide hF).get (k := 4) rfl d4
            have e38 : us 38 = .bool true := (unhide hF).get (k := 17) rfl d17
            have HB := hide hB
            clear hB
            simp only [fillA, Act.put, List.setIfInBounds_toArray, List.set_cons_zero, List.set_cons_succ] at hNx ⊢
            simp only [e25, e38] at hNx ⊢
            clear e25 e38
            rw [if_pos (by rfl)]
            go_simp
            first | refine hNx _ _ ?_ | skip
            exact ⟨(unhide hF).step rfl rfl, (unhide HB).congr (fun k => by rcases k with _ | k <;> simp [EQc])⟩
          refine StepsR.cons 20 rfl ?_ ?_
          · intro L us W hi hdep hR Kx hNx
            have hF := hide hR.1
            have hB := hR.2
            clear hR
            have d18 : L 18 = true := hdep 18 (by kernel_rfl)
            clear hdep
            have e39 : us 39 = .bool true := (unhide hF).get (k := 18) rfl d18
            have HB := hide hB
            clear hB
            simp only [fillA, Act.put, List.setIfInBounds_toArray, List.set_cons_zero, List.set_cons_succ] at hNx ⊢
            simp only [e39] at hNx ⊢
            clear e39
            rw [if_pos (by rfl)]
            go_simp
            first | refine hNx _ _ ?_ | skip
            exact ⟨(unhide hF).step rfl rfl, (unhide HB).congr (fun k => by rcases k with _ | k <;> simp [EQc])⟩
          refine StepsR.cons 21 rfl ?_ ?_
          · intro L us W hi hdep hR Kx hNx
            have hF := hide hR.1
            have hB := hR.2
            clear hR
            have d19 : L 19 = true := hdep 19 (by kernel_rfl)
            clear hdep
            have e40 : us 40 = .bool true := (unhide hF).get (k := 19) rfl d19
            have HB := hide hB
            clear hB
            simp only [fillA, Act.put, List.setIfInBounds_toArray, List.set_cons_zero, List.set_cons_succ] at hNx ⊢
            simp only [e40] at hNx ⊢
            clear e40
            refine ifn (by rfl) ?_
            first | refine hNx _ _ ?_ | skip
            exact ⟨(unhide hF).step rfl rfl, (unhide HB).congr (fun k => by rcases k with _ | k <;> simp [EQc])⟩
          refine StepsR.cons 22 rfl ?_ ?_
          · intro L us W hi hdep hR Kx hNx
            have hF := hide hR.1
            have hB := hR.2
            clear hR
            have d19 : L 19 = true := hdep 19 (by kernel_rfl)
            clear hdep
            have e40 : us 40 = .bool true := (unhide hF).get (k := 19) rfl d19
            have HB := hide hB
            clear hB
            simp only [fillA, Act.put, List.setIfInBounds_toArray, List.set_cons_zero, List.set_cons_succ] at hNx ⊢
            simp only [e40] at hNx ⊢
            clear e40
            refine ifn (by rfl) ?_
            first | refine hNx _ _ ?_ | skip
            exact ⟨(unhide hF).step rfl rfl, (unhide HB).congr (fun k => by rcases k with _ | k <;> simp [EQc])⟩
          refine StepsR.cons 23 rfl ?_ ?_
          · intro L us W hi hdep hR Kx hNx
            have hF := hide hR.1
            have hB := hR.2
            clear hR
            have d19 : L 19 = true := hdep 19 (by kernel_rfl)
            clear hdep
            have e40 : us 40 = .bool true := (unhide hF).get (k := 19) rfl d19
            have HB := hide hB
            clear hB
            simp only [fillA, Act.put, List.setIfInBounds_toArray, List.set_cons_zero, List.set_cons_succ] at hNx ⊢
            simp only [e40] at hNx ⊢
            clear e40
            refine ifn (by rfl) ?_
            first | refine hNx _ _ ?_ | skip
            exact ⟨(unhide hF).step rfl rfl, (unhide HB).congr (fun k => by rcases k with _ | k <;> simp [EQc])⟩
          refine StepsR.cons 24 rfl ?_ ?_
          · intro L us W hi hdep hR Kx hNx
            have hF := hide hR.1
            have hB := hR.2
            clear hR
            have d19 : L 19 = true := hdep 19 (by kernel_rfl)
            clear hdep
            have e40 : us 40 = .bool true := (unhide hF).get (k := 19) rfl d19
            have HB := hide hB
            clear hB
            simp only [fillA, Act.put, List.setIfInBounds_toArray, List.set_cons_zero, List.set_cons_succ] at hNx ⊢
            simp only [e40] at hNx ⊢
            clear e40
            refine ifn (by rfl) ?_
            first | refine hNx _ _ ?_ | skip
            exact ⟨(unhide hF).step rfl rfl, (unhide HB).congr (fun k => by rcases k with _ | k <;> simp [EQc])⟩
          refine StepsR.cons 25 rfl ?_ ?_
          · intro L us W hi hdep hR Kx hNx
            have hF := hide hR.1
            have hB := hR.2
            clear hR
            have d19 : L 19 = true := hdep 19 (by kernel_rfl)
            have d23 : L 23 = true := hdep 23 (by kernel_rfl)
            clear hdep
            have e40 : us 40 = .bool true := (unhide hF).get (k := 19) rfl d19
            have e44 : us 44 = undef := (unhide hF).get (k := 23) rfl d23
            have HB := hide hB
            clear hB
            simp only [fillA, Act.put, List.setIfInBounds_toArray, List.set_cons_zero, List.set_cons_succ] at hNx ⊢
            simp only [e40, e44] at hNx ⊢
            clear e40 e44
            rw [if_pos (by rfl)]
            go_simp
            first | refine hNx _ _ ?_ | skip
            exact ⟨(unhide hF).step rfl rfl, (unhide HB).congr (fun k => by rcases k with _ | k <;> simp [EQc])⟩
          exact StepsR.nil
        · intro L us W hL hR
          have hF := hide hR.1
          have hB := hR.2
          clear hR
          have hE0 : EQc LR wr b o cap m nc na id sl i j pv S w L us 0 = some (wr.heap.size, [.int .i64 id, .int .i64 sl, .slice na m nc]) := by simp [EQc]
          have hO0 := hB.ownV hE0
          clear hE0
          have HA : Hid (Bk w W (XQc LR wr b o cap m nc na id sl i j pv S w)) := hide (hB.congr (fun k => by rcases k with _ | k <;> simp [EQc, XQc]))
          have f0 : us 21 = .pointer (some ⟨wr.heap.size, 0, none⟩) := (unhide hF).get (k := 0) rfl (hL 0 (by decide))
          have f1 : us 22 = .int .i64 id := (unhide hF).get (k := 1) rfl (hL 1 (by decide))
          have f2 : us 23 = .bool true := (unhide hF).get (k := 2) rfl (hL 2 (by decide))
          have f3 : us 24 = .bool false := (unhide hF).get (k := 3) rfl (hL 3 (by decide))
          have f4 : us 25 = .bool false := (unhide hF).get (k := 4) rfl (hL 4 (by decide))
          have f5 : us 26 = .int .i64 (i : Int) := (unhide hF).get (k := 5) rfl (hL 5 (by decide))
          have f6 : us 27 = .bool true := (unhide hF).get (k := 6) rfl (hL 6 (by decide))
          have f7 : us 28 = .bool true := (unhide hF).get (k := 7) rfl (hL 7 (by decide))
          have f8 : us 29 = .slice (some ⟨b, o, none⟩) LR.length cap := (unhide hF).get (k := 8) rfl (hL 8 (by decide))
          have f9 : us 30 = .int .i64 (i : Int) := (unhide hF).get (k := 9) rfl (hL 9 (by decide))
          have f10 : us 31 = .int .i64 (j : Int) := (unhide hF).get (k := 10) rfl (hL 10 (by decide))
          have f11 : us 32 = .pointer (some ⟨b, o + j * 3, none⟩) := (unhide hF).get (k := 11) rfl (hL 11 (by decide))
          have f12 : us 33 = .pointer (some ⟨b, o + j * 3, none⟩) := (unhide hF).get (k := 12) rfl (hL 12 (by decide))
          have f13 : us 34 = .int .i64 pv := (unhide hF).get (k := 13) rfl (hL 13 (by decide))
          have f14 : us 35 = .pointer (some ⟨wr.heap.size, 0, none⟩) := (unhide hF).get (k := 14) rfl (hL 14 (by decide))
          have f15 : us 36 = .int .i64 id := (unhide hF).get (k := 15) rfl (hL 15 (by decide))
          have f16 : us 37 = .bool true := (unhide hF).get (k := 16) rfl (hL 16 (by decide))
          have f17 : us 38 = .bool true := (unhide hF).get (k := 17) rfl (hL 17 (by decide))
          have f18 : us 39 = .bool true := (unhide hF).get (k := 18) rfl (hL 18 (by decide))
          have f19 : us 40 = .bool true := (unhide hF).get (k := 19) rfl (hL 19 (by decide))
          have f20 : us 41 = undef := (unhide hF).get (k := 20) rfl (hL 20 (by decide))
          have f21 : us 42 = undef := (unhide hF).get (k := 21) rfl (hL 21 (by decide))
          have f22 : us 43 = undef := (unhide hF).get (k := 22) rfl (hL 22 (by decide))
          have f23 : us 44 = undef := (unhide hF).get (k := 23) rfl (hL 23 (by decide))
          have f24 : us 45 = .bool true := (unhide hF).get (k := 24) rfl (hL 24 (by decide))
          have HW := hide hB.below
          clear hB hL
          simp only [fillA, Act.put, List.setIfInBounds_toArray, List.set_cons_zero, List.set_cons_succ]
          simp only [f0, f1, f2, f3, f4, f5, f6, f7, f8, f9, f10, f11, f12, f13, f14, f15, f16, f17, f18, f19, f20, f21, f22, f23, f24]
          clear hF f0 f1 f2 f3 f4 f5 f6 f7 f8 f9 f10 f11 f12 f13 f14 f15 f16 f17 f18 f19 f20 f21 f22 f23 f24
          clear us L
          clear hO0
          go_wp2
          go_ret
          exact ⟨ret_bool (unhide HF).symm, unhide HW⟩
      have HID : Hid (IdOk LR i) := by
        show IdOk LR i
        unfold IdOk
        rw [unhide E1]
        exact ⟨(inB_true ha).1, (inB_true ha).2, fun h => by rw [unhide HPV]; have := of_decide_eq_false hpp; omega⟩
      go_wp2_with fail
      have HB0 : Hid (∀ us, Bk w _ (EQd LR wr b o cap m nc na id sl i j pv S w (fun _ => false) us)) := hide (fun us => ((unhide HBK)).congr (fun k => by rcases k with _ | k <;> simp [EQd, EOne]))
      refine wp_region_slots [21, 22, 23, 24, 25, 26, 27, 28, 29, 30, 31, 32, 33, 34, 35, 36, 37, 38, 39, 40, 41, 42, 43, 44, 45] (RQd LR wr b o cap m nc na id sl i j pv S w) (by kernel_rfl) (by kernel_rfl) (by decide) (by kernel_rfl) ?_ ?_ ?_
      · intro us
        exact ⟨facts_start us _, (unhide HB0 us).drew⟩
      · clear HB0
        refine StepsR.cons 1 rfl ?_ ?_
        · intro L us W hi hdep hR Kx hNx
          have hF := hide hR.1
          have hB := hR.2
          clear hR
          clear hdep
          have HB := hide hB
          clear hB
          simp only [fillA, Act.put, List.setIfInBounds_toArray, List.set_cons_zero, List.set_cons_succ] at hNx ⊢
          rw [if_pos (by rfl)]
          go_simp
          first | refine hNx _ _ ?_ | skip
          exact ⟨(unhide hF).step rfl rfl, (unhide HB).congr (fun k => by rcases k with _ | k <;> simp [EQd])⟩
        refine StepsR.cons 2 rfl ?_ ?_
        · intro L us W hi hdep hR Kx hNx
          have hF := hide hR.1
          have hB := hR.2
          clear hR
          have d0 : L 0 = true := hdep 0 (by kernel_rfl)
          clear hdep
          have hE : EQd LR wr b o cap m nc na id sl i j pv S w L us 0 = some (wr.heap.size, [.int .i64 id, .int .i64 sl, .slice na m nc]) := by simp [EQd]
          have e21 : us 21 = .pointer (some ⟨wr.heap.size, 0, none⟩) := (unhide hF).get (k := 0) rfl d0
          have hO := hB.ownV hE
          have c0 := hO.cell (i := 0) rfl
          have c1 := hO.cell (i := 1) rfl
          have c2 := hO.cell (i := 2) rfl
          clear hO
          have HB := hide hB
          clear hB
          have HE := hide hE
          clear hE
          simp only [fillA, Act.put, List.setIfInBounds_toArray, List.set_cons_zero, List.set_cons_succ] at hNx ⊢
          simp only [e21] at hNx ⊢
          clear e21
          rw [if_pos (by rfl)]
          go_simp
          first | refine hNx _ _ ?_ | skip
          exact ⟨(unhide hF).step rfl rfl, (unhide HB).congr (fun k => by rcases k with _ | k <;> simp [EQd])⟩
        refine StepsR.cons 3 rfl ?_ ?_
        · intro L us W hi hdep hR Kx hNx
          have hF := hide hR.1
          have hB := hR.2
          clear hR
          have d1 : L 1 = true := hdep 1 (by kernel_rfl)
          clear hdep
          have e22 : us 22 = .int .i64 id := (unhide hF).get (k := 1) rfl d1
          have HB := hide hB
          clear hB
          simp only [fillA, Act.put, List.setIfInBounds_toArray, List.set_cons_zero, List.set_cons_succ] at hNx ⊢
          simp only [e22] at hNx ⊢
          clear e22
          rw [if_pos (by rfl)]
          have HC := hide (unhide HLa W)
          go_simp
          refine (unhide HC).mono ?_
          rintro e W' ⟨rfl, hb⟩
          replace HB := hide ((unhide HB).step hb)
          clear hb HC
          go_wp2_with fail
          first | refine hNx _ _ ?_ | skip
          exact ⟨(unhide hF).step rfl rfl, (unhide HB).congr (fun k => by rcases k with _ | k <;> simp [EQd])⟩
        refine StepsR.cons 4 rfl ?_ ?_
        · intro L us W hi hdep hR Kx hNx
          have hF := hide hR.1
          have hB := hR.2
          clear hR
          have d2 : L 2 = true := hdep 2 (by kernel_rfl)
          clear hdep
          have e23 : us 23 = .bool true := (unhide hF).get (k := 2) rfl d2
          have HB := hide hB
          clear hB
          simp only [fillA, Act.put, List.setIfInBounds_toArray, List.set_cons_zero, List.set_cons_succ] at hNx ⊢
          simp only [e23] at hNx ⊢
          clear e23
          rw [if_pos (by rfl)]
          go_simp
          first | refine hNx _ _ ?_ | skip
          exact ⟨(unhide hF).step rfl rfl, (unhide HB).congr (fun k => by rcases k with _ | k <;> simp [EQd])⟩
        refine StepsR.cons 5 rfl ?_ ?_
        · intro L us W hi hdep hR Kx hNx
          have hF := hide hR.1
          have hB := hR.2
          clear hR
          have d3 : L 3 = true := hdep 3 (by kernel_rfl)
          clear hdep
          have e24 : us 24 = .bool false := (unhide hF).get (k := 3) rfl d3
          have HB := hide hB
          clear hB
          simp only [fillA, Act.put, List.setIfInBounds_toArray, List.set_cons_zero, List.set_cons_succ] at hNx ⊢
          simp only [e24] at hNx ⊢
          clear e24
          rw [if_pos (by rfl)]
          go_simp
          first | refine hNx _ _ ?_ | skip
          exact ⟨(unhide hF).step rfl rfl, (unhide HB).congr (fun k => by rcases k with _ | k <;> simp [EQd])⟩
        refine StepsR.cons 6 rfl ?_ ?_
        · intro L us W hi hdep hR Kx hNx
          have hF := hide hR.1
          have hB := hR.2
          clear hR
          have d4 : L 4 = true := hdep 4 (by kernel_rfl)
          clear hdep
          have e25 : us 25 = .bool false := (unhide hF).get (k := 4) rfl d4
          have HB := hide hB
          clear hB
          simp only [fillA, Act.put, List.setIfInBounds_toArray, List.set_cons_zero, List.set_cons_succ] at hNx ⊢
          simp only [e25] at hNx ⊢
          clear e25
          rw [if_pos (by rfl)]
          go_simp
          first | refine hNx _ _ ?_ | skip
          exact ⟨(unhide hF).step rfl rfl, (unhide HB).congr (fun k => by rcases k with _ | k <;> simp [EQd])⟩
        refine StepsR.cons 7 rfl ?_ ?_
        · intro L us W hi hdep hR Kx hNx
          have hF := hide hR.1
          have hB := hR.2
          clear hR
          have d4 : L 4 = true := hdep 4 (by kernel_rfl)
          have d5 : L 5 = true := hdep 5 (by kernel_rfl)
          clear hdep
          have e25 : us 25 = .bool false := (unhide hF).get (k := 4) rfl d4
          have e26 : us 26 = .int .i64 (i : Int) := (unhide hF).get (k := 5) rfl d5
          have HB := hide hB
          clear hB
          simp only [fillA, Act.put, List.setIfInBounds_toArray, List.set_cons_zero, List.set_cons_succ] at hNx ⊢
          simp only [e25, e26] at hNx ⊢
          clear e25 e26
          rw [if_pos (by rfl)]
          go_simp
          first | refine hNx _ _ ?_ | skip
          exact ⟨(unhide hF).step rfl rfl, (unhide HB).congr (fun k => by rcases k with _ | k <;> simp [EQd])⟩
        refine StepsR.cons 8 rfl ?_ ?_
        · intro L us W hi hdep hR Kx hNx
          have hF := hide hR.1
          have hB := hR.2
          clear hR
          have d4 : L 4 = true := hdep 4 (by kernel_rfl)
          have d6 : L 6 = true := hdep 6 (by kernel_rfl)
          clear hdep
          have e25 : us 25 = .bool false := (unhide hF).get (k := 4) rfl d4
          have e27 : us 27 = .bool true := (unhide hF).get (k := 6) rfl d6
          have HB := hide hB
          clear hB
          simp only [fillA, Act.put, List.setIfInBounds_toArray, List.set_cons_zero, List.set_cons_succ] at hNx ⊢
          simp only [e25, e27] at hNx ⊢
          clear e25 e27
          rw [if_pos (by rfl)]
          go_simp
          first | refine hNx _ _ ?_ | skip
          exact ⟨(unhide hF).step rfl rfl, (unhide HB).congr (fun k => by rcases k with _ | k <;> simp [EQd])⟩
        refine StepsR.cons 9 rfl ?_ ?_
        · intro L us W hi hdep hR Kx hNx
          have hF := hide hR.1
          have hB := hR.2
          clear hR
          have d7 : L 7 = true := hdep 7 (by kernel_rfl)
          clear hdep
          have e28 : us 28 = .bool true := (unhide hF).get (k := 7) rfl d7
          have HB := hide hB
          clear hB
          simp only [fillA, Act.put, List.setIfInBounds_toArray, List.set_cons_zero, List.set_cons_succ] at hNx ⊢
          simp only [e28] at hNx ⊢
          clear e28
          rw [if_pos (by rfl)]
          go_simp
          first | refine hNx _ _ ?_ | skip
          exact ⟨(unhide hF).step rfl rfl, (unhide HB).congr (fun k => by rcases k with _ | k <;> simp [EQd])⟩
        refine StepsR.cons 10 rfl ?_ ?_
        · intro L us W hi hdep hR Kx hNx
          have hF := hide hR.1
          have hB := hR.2
          clear hR
          have d7 : L 7 = true := hdep 7 (by kernel_rfl)
          clear hdep
          have e28 : us 28 = .bool true := (unhide hF).get (k := 7) rfl d7
          have HB := hide hB
          clear hB
          simp only [fillA, Act.put, List.setIfInBounds_toArray, List.set_cons_zero, List.set_cons_succ] at hNx ⊢
          simp only [e28] at hNx ⊢
          clear e28
          rw [if_pos (by rfl)]
          go_simp
          first | refine hNx _ _ ?_ | skip
          exact ⟨(unhide hF).step rfl rfl, (unhide HB).congr (fun k => by rcases k with _ | k <;> simp [EQd])⟩
        refine StepsR.cons 11 rfl ?_ ?_
        · intro L us W hi hdep hR Kx hNx
          have hF := hide hR.1
          have hB := hR.2
          clear hR
          have d7 : L 7 = true := hdep 7 (by kernel_rfl)
          have d9 : L 9 = true := hdep 9 (by kernel_rfl)
          clear hdep
          have e28 : us 28 = .bool true := (unhide hF).get (k := 7) rfl d7
          have e30 : us 30 = .int .i64 (i : Int) := (unhide hF).get (k := 9) rfl d9
          have HB := hide hB
          clear hB
          simp only [fillA, Act.put, List.setIfInBounds_toArray, List.set_cons_zero, List.set_cons_succ] at hNx ⊢
          simp only [e28, e30] at hNx ⊢
          clear e28 e30
          rw [if_pos (by rfl)]
          go_simp
          first | refine hNx _ _ ?_ | skip
          exact ⟨(unhide hF).step rfl rfl, (unhide HB).congr (fun k => by rcases k with _ | k <;> simp [EQd])⟩
        refine StepsR.cons 12 rfl ?_ ?_
        · intro L us W hi hdep hR Kx hNx
          have hF := hide hR.1
          have hB := hR.2
          clear hR
          have d7 : L 7 = true := hdep 7 (by kernel_rfl)
          have d8 : L 8 = true := hdep 8 (by kernel_rfl)
          have d10 : L 10 = true := hdep 10 (by kernel_rfl)
          clear hdep
          have e28 : us 28 = .bool true := (unhide hF).get (k := 7) rfl d7
          have e29 : us 29 = .slice (some ⟨b, o, none⟩) LR.length cap := (unhide hF).get (k := 8) rfl d8
          have e31 : us 31 = .int .i64 (j : Int) := (unhide hF).get (k := 10) rfl d10
          have HB := hide hB
          clear hB
          simp only [fillA, Act.put, List.setIfInBounds_toArray, List.set_cons_zero, List.set_cons_succ] at hNx ⊢
          simp only [e28, e29, e31] at hNx ⊢
          clear e28 e29 e31
          rw [if_pos (by rfl)]
          go_simp
          first | refine hNx _ _ ?_ | skip
          exact ⟨(unhide hF).step rfl rfl, (unhide HB).congr (fun k => by rcases k with _ | k <;> simp [EQd])⟩
        refine StepsR.cons 13 rfl ?_ ?_
        · intro L us W hi hdep hR Kx hNx
          have hF := hide hR.1
          have hB := hR.2
          clear hR
          have d7 : L 7 = true := hdep 7 (by kernel_rfl)
          have d11 : L 11 = true := hdep 11 (by kernel_rfl)
          clear hdep
          have e28 : us 28 = .bool true := (unhide hF).get (k := 7) rfl d7
          have e32 : us 32 = .pointer (some ⟨b, o + j * 3, none⟩) := (unhide hF).get (k := 11) rfl d11
          have HB := hide hB
          clear hB
          simp only [fillA, Act.put, List.setIfInBounds_toArray, List.set_cons_zero, List.set_cons_succ] at hNx ⊢
          simp only [e28, e32] at hNx ⊢
          clear e28 e32
          rw [if_pos (by rfl)]
          go_simp
          first | refine hNx _ _ ?_ | skip
          exact ⟨(unhide hF).step rfl rfl, (unhide HB).congr (fun k => by rcases k with _ | k <;> simp [EQd])⟩
        refine StepsR.cons 14 rfl ?_ ?_
        · intro L us W hi hdep hR Kx hNx
          have hF := hide hR.1
          have hB := hR.2
          clear hR
          have d7 : L 7 = true := hdep 7 (by kernel_rfl)
          have d12 : L 12 = true := hdep 12 (by kernel_rfl)
          clear hdep
          have e28 : us 28 = .bool true := (unhide hF).get (k := 7) rfl d7
          have e33 : us 33 = .pointer (some ⟨b, o + j * 3, none⟩) := (unhide hF).get (k := 12) rfl d12
          have HB := hide hB
          clear hB
          simp only [fillA, Act.put, List.setIfInBounds_toArray, List.set_cons_zero, List.set_cons_succ] at hNx ⊢
          simp only [e28, e33] at hNx ⊢
          clear e28 e33
          rw [if_pos (by rfl)]
          have hcx := ((unhide HB).below.cell (lt_of_cell hpv)).trans hpv
          go_simp
          first | refine hNx _ _ ?_ | skip
          exact ⟨(unhide hF).step rfl rfl, (unhide HB).congr (fun k => by rcases k with _ | k <;> simp [EQd])⟩
        refine StepsR.cons 15 rfl ?_ ?_
        · intro L us W hi hdep hR Kx hNx
          have hF := hide hR.1
          have hB := hR.2
          clear hR
          have d7 : L 7 = true := hdep 7 (by kernel_rfl)
          clear hdep
          have e28 : us 28 = .bool true := (unhide hF).get (k := 7) rfl d7
          have HB := hide hB
          clear hB
          simp only [fillA, Act.put, List.setIfInBounds_toArray, List.set_cons_zero, List.set_cons_succ] at hNx ⊢
          simp only [e28] at hNx ⊢
          clear e28
          rw [if_pos (by rfl)]
          go_simp
          first | refine hNx _ _ ?_ | skip
          exact ⟨(unhide hF).step rfl rfl, (unhide HB).congr (fun k => by rcases k with _ | k <;> simp [EQd])⟩
        refine StepsR.cons 16 rfl ?_ ?_
        · intro L us W hi hdep hR Kx hNx
          have hF := hide hR.1
          have hB := hR.2
          clear hR
          have d7 : L 7 = true := hdep 7 (by kernel_rfl)
          have d14 : L 14 = true := hdep 14 (by kernel_rfl)
          clear hdep
          have hE : EQd LR wr b o cap m nc na id sl i j pv S w L us 0 = some (wr.heap.size, [.int .i64 id, .int .i64 sl, .slice na m nc]) := by simp [EQd]
          have e28 : us 28 = .bool true := (unhide hF).get (k := 7) rfl d7
          have e35 : us 35 = .pointer (some ⟨wr.heap.size, 0, none⟩) := (unhide hF).get (k := 14) rfl d14
          have hO := hB.ownV hE
          have c0 := hO.cell (i := 0) rfl
          have c1 := hO.cell (i := 1) rfl
          have c2 := hO.cell (i := 2) rfl
          clear hO
          have HB := hide hB
          clear hB
          have HE := hide hE
          clear hE
          simp only [fillA, Act.put, List.setIfInBounds_toArray, List.set_cons_zero, List.set_cons_succ] at hNx ⊢
          simp only [e28, e35] at hNx ⊢
          clear e28 e35
          rw [if_pos (by rfl)]
          go_simp
          first | refine hNx _ _ ?_ | skip
          exact ⟨(unhide hF).step rfl rfl, (unhide HB).congr (fun k => by rcases k with _ | k <;> simp [EQd])⟩
        refine StepsR.cons 17 rfl ?_ ?_
        · intro L us W hi hdep hR Kx hNx
          have hF := hide hR.1
          have hB := hR.2
          clear hR
          have d7 : L 7 = true := hdep 7 (by kernel_rfl)
          have d13 : L 13 = true := hdep 13 (by kernel_rfl)
          have d15 : L 15 = true := hdep 15 (by kernel_rfl)
          clear hdep
          have e28 : us 28 = .bool true := (unhide hF).get (k := 7) rfl d7
          have e34 : us 34 = .int .i64 pv := (unhide hF).get (k := 13) rfl d13
          have e36 : us 36 = .int .i64 id := (unhide hF).get (k := 15) rfl d15
          have HB := hide hB
          clear hB
          simp only [fillA, Act.put, List.setIfInBounds_toArray, List.set_cons_zero, List.set_cons_succ] at hNx ⊢
          simp only [e28, e34, e36] at hNx ⊢
          clear e28 e34 e36
          rw [if_pos (by rfl)]
          go_simp
          first | refine hNx _ _ ?_ | skip
          exact ⟨(unhide hF).step rfl rfl, (unhide HB).congr (fun k => by rcases k with _ | k <;> simp [EQd])⟩
        refine StepsR.cons 18 rfl ?_ ?_
        · intro L us W hi hdep hR Kx hNx
          have hF := hide hR.1
          have hB := hR.2
          clear hR
          have d4 : L 4 = true := hdep 4 (by kernel_rfl)
          have d7 : L 7 = true := hdep 7 (by kernel_rfl)
          have d16 : L 16 = true := hdep 16 (by kernel_rfl)
          clear hdep
          have e25 : us 25 = .bool false := (unhide hF).get (k := 4) rfl d4
          have e28 : us 28 = .bool true := (unhide hF).get (k := 7) rfl d7
          have e37 : us 37 = .bool false := (unhide hF).get (k := 16) rfl d16
          have HB := hide hB
          clear hB
          simp only [fillA, Act.put, List.setIfInBounds_toArray, List.set_cons_zero, List.set_cons_succ] at hNx ⊢
          simp only [e25, e28, e37] at hNx ⊢
          clear e25 e28 e37
          rw [if_pos (by rfl)]
          go_simp
          first | refine hNx _ _ ?_ | skip
          exact ⟨(unhide hF).step rfl rfl, (unhide HB).congr (fun k => by rcases k with _ | k <;> simp [EQd])⟩
        refine StepsR.cons 19 rfl ?_ ?_
        · intro L us W hi hdep hR Kx hNx
          have hF := hide hR.1
          have hB := hR.2
          clear hR
          have d4 : L 4 = true := hdep 4 (by kernel_rfl)
          have d17 : L 17 = true := hdep 17 (by kernel_rfl)
          clear hdep
          have e25 : us 25 = .bool false := (unhide hF).get (k := 4) rfl d4
          have e38 : us 38 = .bool false := (unhide hF).get (k := 17) rfl d17
          have HB := hide hB
          clear hB
          simp only [fillA, Act.put, List.setIfInBounds_toArray, List.set_cons_zero, List.set_cons_succ] at hNx ⊢
          simp only [e25, e38] at hNx ⊢
          clear e25 e38
          rw [if_pos (by rfl)]
          go_simp
          first | refine hNx _ _ ?_ | skip
          exact ⟨(unhide hF).step rfl rfl, (unhide HB).congr (fun k => by rcases k with _ | k <;> simp [EQd])⟩
        refine StepsR.cons 20 rfl ?_ ?_
        · intro L us W hi hdep hR Kx hNx
          have hF := hide hR.1
          have hB := hR.2
          clear hR
          have d18 : L 18 = true := hdep 18 (by kernel_rfl)
          clear hdep
          have e39 : us 39 = .bool false := (unhide hF).get (k := 18) rfl d18
          have HB := hide hB
          clear hB
          simp only [fillA, Act.put, List.setIfInBounds_toArray, List.set_cons_zero, List.set_cons_succ] at hNx ⊢
          simp only [e39] at hNx ⊢
          clear e39
          rw [if_pos (by rfl)]
          go_simp
          first | refine hNx _ _ ?_ | skip
          exact ⟨(unhide hF).step rfl rfl, (unhide HB).congr (fun k => by rcases k with _ | k <;> simp [EQd])⟩
        refine StepsR.cons 21 rfl ?_ ?_
        · intro L us W hi hdep hR Kx hNx
          have hF := hide hR.1
          have hB := hR.2
          clear hR
          have d19 : L 19 = true := hdep 19 (by kernel_rfl)
          clear hdep
          have e40 : us 40 = .bool false := (unhide hF).get (k := 19) rfl d19
          have HB := hide hB
          clear hB
          simp only [fillA, Act.put, List.setIfInBounds_toArray, List.set_cons_zero, List.set_cons_succ] at hNx ⊢
          simp only [e40] at hNx ⊢
          clear e40
          rw [if_pos (by rfl)]
          go_simp
          first | refine hNx _ _ ?_ | skip
          exact ⟨(unhide hF).step rfl rfl, (unhide HB).congr (fun k => by rcases k with _ | k <;> simp [EQd])⟩
        refine StepsR.cons 22 rfl ?_ ?_
        · intro L us W hi hdep hR Kx hNx
          have hF := hide hR.1
          have hB := hR.2
          clear hR
          have d19 : L 19 = true := hdep 19 (by kernel_rfl)
          have d20 : L 20 = true := hdep 20 (by kernel_rfl)
          clear hdep
          have hE : EQd LR wr b o cap m nc na id sl i j pv S w L us 0 = some (wr.heap.size, [.int .i64 id, .int .i64 sl, .slice na m nc]) := by simp [EQd]
          have e40 : us 40 = .bool false := (unhide hF).get (k := 19) rfl d19
          have e41 : us 41 = .pointer (some ⟨wr.heap.size, 1, none⟩) := (unhide hF).get (k := 20) rfl d20
          have hO := hB.ownV hE
          have c0 := hO.cell (i := 0) rfl
          have c1 := hO.cell (i := 1) rfl
          have c2 := hO.cell (i := 2) rfl
          clear hO
          have HB := hide hB
          clear hB
          have HE := hide hE
          clear hE
          simp only [fillA, Act.put, List.setIfInBounds_toArray, List.set_cons_zero, List.set_cons_succ] at hNx ⊢
          simp only [e40, e41] at hNx ⊢
          clear e40 e41
          rw [if_pos (by rfl)]
          go_simp
          first | refine hNx _ _ ?_ | skip
          exact ⟨(unhide hF).step rfl rfl, (unhide HB).congr (fun k => by rcases k with _ | k <;> simp [EQd])⟩
        refine StepsR.cons 23 rfl ?_ ?_
        · intro L us W hi hdep hR Kx hNx
          have hF := hide hR.1
          have hB := hR.2
          clear hR
          have d19 : L 19 = true := hdep 19 (by kernel_rfl)
          have d21 : L 21 = true := hdep 21 (by kernel_rfl)
          clear hdep
          have e40 : us 40 = .bool false := (unhide hF).get (k := 19) rfl d19
          have e42 : us 42 = .int .i64 sl := (unhide hF).get (k := 21) rfl d21
          have HB := hide hB
          clear hB
          simp only [fillA, Act.put, List.setIfInBounds_toArray, List.set_cons_zero, List.set_cons_succ] at hNx ⊢
          simp only [e40, e42] at hNx ⊢
          clear e40 e42
          rw [if_pos (by rfl)]
          have HC := hide (unhide HLs W)
          go_simp
          refine (unhide HC).mono ?_
          rintro e W' ⟨rfl, hb⟩
          replace HB := hide ((unhide HB).step hb)
          clear hb HC
          go_wp2_with fail
          first | refine hNx _ _ ?_ | skip
          exact ⟨(unhide hF).step rfl rfl, (unhide HB).congr (fun k => by rcases k with _ | k <;> simp [EQd])⟩
        refine StepsR.cons 24 rfl ?_ ?_
        · intro L us W hi hdep hR Kx hNx
          have hF := hide hR.1
          have hB := hR.2
          clear hR
          have d19 : L 19 = true := hdep 19 (by kernel_rfl)
          have d22 : L 22 = true := hdep 22 (by kernel_rfl)
          clear hdep
          have e40 : us 40 = .bool false := (unhide hF).get (k := 19) rfl d19
          have e43 : us 43 = .bool S := (unhide hF).get (k := 22) rfl d22
          have HB := hide hB
          clear hB
          simp only [fillA, Act.put, List.setIfInBounds_toArray, List.set_cons_zero, List.set_cons_succ] at hNx ⊢
          simp only [e40, e43] at hNx ⊢
          clear e40 e43
          rw [if_pos (by rfl)]
          go_simp
          first | refine hNx _ _ ?_ | skip
          exact ⟨(unhide hF).step rfl rfl, (unhide HB).congr (fun k => by rcases k with _ | k <;> simp [EQd])⟩
        refine StepsR.cons 25 rfl ?_ ?_
        · intro L us W hi hdep hR Kx hNx
          have hF := hide hR.1
          have hB := hR.2
          clear hR
          have d19 : L 19 = true := hdep 19 (by kernel_rfl)
          have d23 : L 23 = true := hdep 23 (by kernel_rfl)
          clear hdep
          have e40 : us 40 = .bool false := (unhide hF).get (k := 19) rfl d19
          have e44 : us 44 = .bool (!S) := (unhide hF).get (k := 23) rfl d23
          have HB := hide hB
          clear hB
          simp only [fillA, Act.put, List.setIfInBounds_toArray, List.set_cons_zero, List.set_cons_succ] at hNx ⊢
          simp only [e40, e44] at hNx ⊢
          clear e40 e44
          rw [if_pos (by rfl)]
          go_simp
          first | refine hNx _ _ ?_ | skip
          exact ⟨(unhide hF).step rfl rfl, (unhide HB).congr (fun k => by rcases k with _ | k <;> simp [EQd])⟩
        exact StepsR.nil
      · intro L us W hL hR
        have hF := hide hR.1
        have hB := hR.2
        clear hR
        have hE0 : EQd LR wr b o cap m nc na id sl i j pv S w L us 0 = some (wr.heap.size, [.int .i64 id, .int .i64 sl, .slice na m nc]) := by simp [EQd]
        have hO0 := hB.ownV hE0
        clear hE0
        have HA : Hid (Bk w W (XQd LR wr b o cap m nc na id sl i j pv S w)) := hide (hB.congr (fun k => by rcases k with _ | k <;> simp [EQd, XQd]))
        have f0 : us 21 = .pointer (some ⟨wr.heap.size, 0, none⟩) := (unhide hF).get (k := 0) rfl (hL 0 (by decide))
        have f1 : us 22 = .int .i64 id := (unhide hF).get (k := 1) rfl (hL 1 (by decide))
        have f2 : us 23 = .bool true := (unhide hF).get (k := 2) rfl (hL 2 (by decide))
        have f3 : us 24 = .bool false := (unhide hF).get (k := 3) rfl (hL 3 (by decide))
        have f4 : us 25 = .bool false := (unhide hF).get (k := 4) rfl (hL 4 (by decide))
        have f5 : us 26 = .int .i64 (i : Int) := (unhide hF).get (k := 5) rfl (hL 5 (by decide))
        have f6 : us 27 = .bool true := (unhide hF).get (k := 6) rfl (hL 6 (by decide))
        have f7 : us 28 = .bool true := (unhide hF).get (k := 7) rfl (hL 7 (by decide))
        have f8 : us 29 = .slice (some ⟨b, o, none⟩) LR.length cap := (unhide hF).get (k := 8) rfl (hL 8 (by decide))
        have f9 : us 30 = .int .i64 (i : Int) := (unhide hF).get (k := 9) rfl (hL 9 (by decide))
        have f10 : us 31 = .int .i64 (j : Int) := (unhide hF).get (k := 10) rfl (hL 10 (by decide))
        have f11 : us 32 = .pointer (some ⟨b, o + j * 3, none⟩) := (unhide hF).get (k := 11) rfl (hL 11 (by decide))
        have f12 : us 33 = .pointer (some ⟨b, o + j * 3, none⟩) := (unhide hF).get (k := 12) rfl (hL 12 (by decide))
        have f13 : us 34 = .int .i64 pv := (unhide hF).get (k := 13) rfl (hL 13 (by decide))
        have f14 : us 35 = .pointer (some ⟨wr.heap.size, 0, none⟩) := (unhide hF).get (k := 14) rfl (hL 14 (by decide))
        have f15 : us 36 = .int .i64 id := (unhide hF).get (k := 15) rfl (hL 15 (by decide))
        have f16 : us 37 = .bool false := (unhide hF).get (k := 16) rfl (hL 16 (by decide))
        have f17 : us 38 = .bool false := (unhide hF).get (k := 17) rfl (hL 17 (by decide))
        have f18 : us 39 = .bool false := (unhide hF).get (k := 18) rfl (hL 18 (by decide))
        have f19 : us 40 = .bool false := (unhide hF).get (k := 19) rfl (hL 19 (by decide))
        have f20 : us 41 = .pointer (some ⟨wr.heap.size, 1, none⟩) := (unhide hF).get (k := 20) rfl (hL 20 (by decide))
        have f21 : us 42 = .int .i64 sl := (unhide hF).get (k := 21) rfl (hL 21 (by decide))
        have f22 : us 43 = .bool S := (unhide hF).get (k := 22) rfl (hL 22 (by decide))
        have f23 : us 44 = .bool (!S) := (unhide hF).get (k := 23) rfl (hL 23 (by decide))
        have f24 : us 45 = .bool (!S) := (unhide hF).get (k := 24) rfl (hL 24 (by decide))
        have HW := hide hB.below
        clear hB hL
        simp only [fillA, Act.put, List.setIfInBounds_toArray, List.set_cons_zero, List.set_cons_succ]
        simp only [f0, f1, f2, f3, f4, f5, f6, f7, f8, f9, f10, f11, f12, f13, f14, f15, f16, f17, f18, f19, f20, f21, f22, f23, f24]
        clear hF f0 f1 f2 f3 f4 f5 f6 f7 f8 f9 f10 f11 f12 f13 f14 f15 f16 f17 f18 f19 f20 f21 f22 f23 f24
        clear us L
        clear hO0 hgt hgn hjj hjw ej' HBK hpp hpv
        cases S
        · have HF : Hid (pB (RadsOk LR) = false) := pB_false fun hh => unhide HSl rfl (hh.2.2.1 i hin).2.1
          go_wp2
          go_ret
          exact ⟨ret_bool (unhide HF).symm, unhide HW⟩
        have HSO := hide (unhide HSl1 rfl)
        have HBX := hide (unhide HA).below
        have HO0 := hide ((unhide HA).ownV (k := 0) rfl)
        clear HA HW HSl HSl1 HLs HLa
        have c2 := (unhide HO0).cell (i := 2) rfl
        go_wp2
        go_loopg [5] m (fun g kv wr2 => Below w.heap.size w wr2 ∧ OwnV wr2 wr.heap.size [.int .i64 id, .int .i64 sl, .slice na m nc] ∧ ∃ k : Nat, k ≤ m ∧ g = m - k ∧ kv = .int .i64 k ∧ Hid (∀ q, q < k → HeAt H i LR.length q ∧ MuAt LR i q))
        case atStart => exact ⟨unhide HBX, unhide HO0, 0, Nat.zero_le _, rfl, rfl, fun q hq => by omega⟩
        case round =>
          obtain ⟨hW2, hO2, k, hk, rfl, rfl, HK⟩ := hrel
          clear c2 HBX HO0
          have c2 := hO2.cell (i := 2) rfl
          by_cases hkm : k < m
          case neg =>
            have HD' : Hid (∀ r, r < i + 1 → IdOk LR r ∧ SlOk LR r ∧ HeOk (rHe LR r) r LR.length ∧ ∀ q, q < (rHe LR r).length → MuAt LR r q) := fun r hr => by
              by_cases e : r = i
              · subst e
                refine ⟨unhide HID, unhide HSO, ?_, ?_⟩
                · rw [unhide E3]; intro q hq; rw [unhide EM] at hq; exact (HK.out q (by omega)).1
                · rw [unhide E3]; intro q hq; rw [unhide EM] at hq; exact (HK.out q (by omega)).2
              · exact HD.out r (by omega)
            have HW2 := hide hW2
            clear HD HK hW2 hO2
            go_wp2
            go_roundg (LR.length - (i + 1))
            case measure => omega
            case rel => exact ⟨unhide HW2, i + 1, by omega, rfl, by go_num, HD'⟩
          obtain ⟨b', o', rfl, hcell⟩ := intAt (unhide HR) hkm
          have c0 := wcell3 hcell hW2
          have hkm' : (k : Int) < m := by omega
          obtain ⟨x, hx⟩ : ∃ x : Int, x = H.getD k 0 := ⟨_, rfl⟩
          have HX := hide hx
          rw [← hx] at c0
          have HHE : Hid (RadsOk LR → HeAt H i LR.length k ∧ MuAt LR i k) := fun hh => by
            have h1 := (hh.2.2.1 i hin).2.2
            have h2 := hh.2.2.2 i hin
            rw [unhide E3] at h1 h2
            exact ⟨h1 k (by rw [unhide EM]; exact hkm), h2 k (by rw [unhide EM]; exact hkm)⟩
          have HW := hide hW2
          have HO2 := hide hO2
          clear hcell hx
          cases hx0 : inB x 0 ((LR.length : Int) - 1) with
          | false =>
            have HF : Hid (pB (RadsOk LR) = false) := pB_false fun hh => by
              obtain ⟨q1, q2, -, -⟩ := (unhide HHE hh).1
              rw [← unhide HX] at q1 q2
              rw [inB_mk q1 (by omega)] at hx0
              cases hx0
            clear HK HD hW2 hO2 HHE
            go_wp2_with (go_at_call 54; refine (l1In_any _ _ _ _).mono ?_; rintro e w' ⟨rfl, h9⟩; have h8 := h9.symm; subst h8; clear h9)
            go_ret
            exact ⟨ret_bool (unhide HF).symm, unhide HW⟩
          | true =>
          obtain ⟨hx1, hx2⟩ := inB_true hx0
          by_cases hxi : x = (i : Int)
          · have HF : Hid (pB (RadsOk LR) = false) := pB_false fun hh => by
              have := (unhide HHE hh).1.2.2.1
              rw [← unhide HX] at this
              exact this hxi
            have hd : (x == (i : Int)) = true := by simpa using hxi
            clear HK HD hW2 hO2 HHE hxi
            go_wp2_with (go_at_call 54; refine (l1In_any _ _ _ _).mono ?_; rintro e w' ⟨rfl, h9⟩; have h8 := h9.symm; subst h8; clear h9)
            go_ret
            exact ⟨ret_bool (unhide HF).symm, unhide HW⟩
          have hd : (x == (i : Int)) = false := by simpa using hxi
          obtain ⟨xn, hxn⟩ : ∃ xn : Nat, x = (xn : Int) := ⟨x.toNat, by omega⟩
          have hxl : xn < LR.length := by omega
          obtain ⟨b2, o2, na2, nc2, id2, sl2, H2, m2, e2, hd0, hd1, hd2, hr2, EX2, EM2, hm2⟩ := radAt (unhide HC) hxl
          simp only [Option.some.injEq, Addr.mk.injEq, and_true] at e2
          obtain ⟨rfl, rfl⟩ := e2
          have q2 := wcell3 hd2 hW2
          have HI2 := hide (l9Has_any _ H2 (i : Int) _ (hr2.below hW2))
          have HMU : Hid (MuAt LR i k ↔ H2.contains (i : Int) = true) := by
            show _ ↔ _
            unfold MuAt
            rw [unhide E3, ← unhide HX, hxn, Int.toNat_natCast, show rHe LR xn = H2 from by show (LR.getD xn default).2.2 = H2; rw [unhide EX2]]
          have HXI := hide hxi
          have HXN := hide hxn
          rw [hxn] at c0 hd hx0 hx1 hx2
          clear hd0 hd1 hd2 hr2 hxi hxn
          rcases Nat.eq_zero_or_pos k with hk0 | hk0
          · have hgt : decide (0 < (k : Int)) = false := by rw [decide_eq_false_iff_not]; omega
            have hgn : decide (0 < k) = false := by rw [decide_eq_false_iff_not]; omega
            have HK0 := hide hk0
            clear hk0
            cases hcn : H2.contains (i : Int) with
            | false =>
              have HF : Hid (pB (RadsOk LR) = false) := pB_false fun hh => by
                have := (unhide HMU).1 (unhide HHE hh).2
                rw [hcn] at this
                cases this
              rw [hcn] at HI2
              clear hcn HK HD hW2 hO2 HHE HMU
              go_wp2_with (first | (go_at_call 54; refine (l1In_any _ _ _ _).mono ?_; rintro e w' ⟨rfl, h9⟩; have h8 := h9.symm; subst h8; clear h9) | (go_at_call 73; refine (unhide HI2).mono ?_; rintro e w' ⟨rfl, h9⟩; have h8 := h9.symm; subst h8; clear h9))
              go_ret
              exact ⟨ret_bool (unhide HF).symm, unhide HW⟩
            | true =>
              have HK' : Hid (∀ q, q < k + 1 → HeAt H i LR.length q ∧ MuAt LR i q) := fun q hq => by
                by_cases e : q = k
                · subst e
                  refine ⟨⟨by rw [← unhide HX, unhide HXN]; omega, by rw [← unhide HX, unhide HXN]; omega, by rw [← unhide HX]; exact unhide HXI, fun h0 => ?_⟩, (unhide HMU).2 hcn⟩
                  have := unhide HK0; omega
                · exact HK.out q (by omega)
              rw [hcn] at HI2
              clear hcn HK hW2 hO2 HHE HMU
              go_wp2_with (first | (go_at_call 54; refine (l1In_any _ _ _ _).mono ?_; rintro e w' ⟨rfl, h9⟩; have h8 := h9.symm; subst h8; clear h9) | (go_at_call 73; refine (unhide HI2).mono ?_; rintro e w' ⟨rfl, h9⟩; have h8 := h9.symm; subst h8; clear h9))
              go_roundg (m - (k + 1))
              case measure => omega
              case rel => exact ⟨unhide HW, unhide HO2, k + 1, by omega, rfl, by go_num, HK'⟩
          · have hgt : decide (0 < (k : Int)) = true := by rw [decide_eq_true_eq]; omega
            have hgn : decide (0 < k) = true := by rw [decide_eq_true_eq]; omega
            obtain ⟨jk, ejk⟩ : ∃ jk : Nat, jk = k - 1 := ⟨_, rfl⟩
            have ejk' : (k : Int) - 1 = (jk : Int) := by omega
            have hjw : IntKind.i64.wrap ((k : Int) - 1) = (jk : Int) := by rw [IntKind.wrap_i64]; omega
            have hjj : IntKind.i64.wrap (jk : Int) = (jk : Int) := by rw [IntKind.wrap_i64]; omega
            have hjm : jk < m := by omega
            have hjm' : (jk : Int) < m := by omega
            obtain ⟨b3, o3, e3, hcell3⟩ := intAt (unhide HR) hjm
            simp only [Option.some.injEq, Addr.mk.injEq, and_true] at e3
            obtain ⟨rfl, rfl⟩ := e3
            have c3 := wcell3 hcell3 hW2
            obtain ⟨y, hy⟩ : ∃ y : Int, y = H.getD jk 0 := ⟨_, rfl⟩
            rw [← hy] at c3
            have HY : Hid (y = H.getD (k - 1) 0) := by show _ = _; rw [hy, ejk]
            have HJK := hide ejk
            clear hcell3 hy ejk
            cases hyx : decide ((xn : Int) ≤ y) with
            | true =>
              have HF : Hid (pB (RadsOk LR) = false) := pB_false fun hh => by
                have := (unhide HHE hh).1.2.2.2 hk0
                rw [← unhide HX, ← unhide HY, unhide HXN] at this
                have := of_decide_eq_true hyx
                omega
              have hkk : ¬ k = 0 := by omega
              clear HK HD hW2 hO2 HHE HMU
              go_wp2_with (go_at_call 54; refine (l1In_any _ _ _ _).mono ?_; rintro e w' ⟨rfl, h9⟩; have h8 := h9.symm; subst h8; clear h9)
              go_ret
              exact ⟨ret_bool (unhide HF).symm, unhide HW⟩
            | false =>
            cases hcn : H2.contains (i : Int) with
            | false =>
              have HF : Hid (pB (RadsOk LR) = false) := pB_false fun hh => by
                have := (unhide HMU).1 (unhide HHE hh).2
                rw [hcn] at this
                cases this
              rw [hcn] at HI2
              clear hcn HK HD hW2 hO2 HHE HMU
              go_wp2_with (first | (go_at_call 54; refine (l1In_any _ _ _ _).mono ?_; rintro e w' ⟨rfl, h9⟩; have h8 := h9.symm; subst h8; clear h9) | (go_at_call 73; refine (unhide HI2).mono ?_; rintro e w' ⟨rfl, h9⟩; have h8 := h9.symm; subst h8; clear h9))
              go_ret
              exact ⟨ret_bool (unhide HF).symm, unhide HW⟩
            | true =>
              have HK' : Hid (∀ q, q < k + 1 → HeAt H i LR.length q ∧ MuAt LR i q) := fun q hq => by
                by_cases e : q = k
                · subst e
                  refine ⟨⟨by rw [← unhide HX, unhide HXN]; omega, by rw [← unhide HX, unhide HXN]; omega, by rw [← unhide HX]; exact unhide HXI, fun h0 => ?_⟩, (unhide HMU).2 hcn⟩
                  rw [← unhide HX, ← unhide HY, unhide HXN]
                  have := of_decide_eq_false hyx
                  omega
                · exact HK.out q (by omega)
              rw [hcn] at HI2
              clear hcn HK hW2 hO2 HHE HMU
              go_wp2_with (first | (go_at_call 54; refine (l1In_any _ _ _ _).mono ?_; rintro e w' ⟨rfl, h9⟩; have h8 := h9.symm; subst h8; clear h9) | (go_at_call 73; refine (unhide HI2).mono ?_; rintro e w' ⟨rfl, h9⟩; have h8 := h9.symm; subst h8; clear h9))
              go_roundg (m - (k + 1))
              case measure => omega
              case rel => exact ⟨unhide HW, unhide HO2, k + 1, by omega, rfl, by go_num, HK'⟩

end Go.Proofs.Ytkjikjeecjendaa
